/- NodeCodes: the walk. -/
import Derived.Test.YtjcobejaldfibaaRde
import Derived.Test.YtjcobejaldfibaaEnI
import Derived.Test.YtjcobejaldfibaaAwa
import Derived.Test.YtjcobejaldfibaaSam
namespace Go.Proofs.Ytjcobejaldfibaa
open Go.RowKit
set_option linter.unusedVariables false
set_option linter.unusedSimpArgs false

theorem op_eql9 (ρ : Operand → Value) (o : Oper) (x y : Operand) (tt : TypeId) (ho : o.op = .binOp .eql 9 x y tt) (s : ByteArray) (hx : ρ x = .string s) (hy : ρ y = .string s) {w : World} : (execOp ρ o).run Try.prog w = .ok (.value (.bool true)) w := by
  have hu := Try.underlying9
  unfold execOp
  simp only [ho, hx, hy]
  simp [go_sem, hu]
theorem op_eql4 (ρ : Operand → Value) (o : Oper) (x y : Operand) (tt : TypeId) (ho : o.op = .binOp .eql 4 x y tt) (b : Bool) (hx : ρ x = .bool b) (hy : ρ y = .bool b) {w : World} : (execOp ρ o).run Try.prog w = .ok (.value (.bool true)) w := by
  have hu := Try.underlying4
  unfold execOp
  simp only [ho, hx, hy]
  simp [go_sem, hu]
theorem load43 {w : World} {b : Nat} {c0 c1 c2 c3 c4 : Value} (h : Box 43 w b c0 c1 c2 c3 c4) : (Instr.loadAt 43 (.pointer (some ⟨b, 0, none⟩))).run Try.prog w = .ok (.agg #[c0, c1, c2, c3, c4]) w :=
  run_loadAt_mid w b 0 43 [c0, c1, c2, c3, c4] _ (fun j v hv => by rw [Nat.zero_add, cell_row h.heap]; simpa using hv) Try.underlying43 rfl Try.size43
/-- The page that a node has, or none. -/
def encP (N : Nd) : List UInt8 := if N.sound = true ∧ N.size ≤ 504 then N.page else []
def encC (N : Nd) : Int := if N.sound = true then (if N.size ≤ 504 then 0 else 60) else 1
theorem enc_told {w w' : World} {N : Nd} {e : Ending} (h : EncEnd w N e w') : ∃ a c, e = .returned (.tuple #[.slice a (encP N).length c, .int .i64 (encC N)]) ∧ Sl w' (.slice a (encP N).length c) (encP N) := by
  unfold encP encC
  rcases h.out with ⟨h1, rfl⟩ | ⟨h1, h2, rfl⟩ | ⟨h1, h2, v, rfl, ho⟩
  · rw [if_neg (by simp [h1]), if_neg (by simp [h1])]
    exact ⟨none, 0, rfl, Sl.nil w'⟩
  · rw [if_neg (by omega), if_pos h1, if_neg (by omega)]
    exact ⟨none, 0, rfl, Sl.nil w'⟩
  · rw [if_pos ⟨h1, h2⟩, if_pos h1, if_pos h2]
    obtain ⟨a, c, rfl⟩ := owns_len ho
    exact ⟨a, c, rfl, Row.of_owns ho⟩
theorem fits_zero : Fits Nd.zero := ⟨by decide, by decide, by decide, fun k hk => (by cases hk), fun k hk => (by cases hk)⟩
theorem dcf_fits (bs : List UInt8) : Fits ((dcf bs).getD Nd.zero) := by
  cases h : dcf bs with
  | none => exact fits_zero
  | some M =>
    show Fits M
    unfold dcf at h
    split at h
    · rename_i hl
      generalize hp : pl (decide ((bs.getD 0 0).toNat = 1)) (start (decide ((bs.getD 0 0).toNat = 1)) (((bs.drop 1).drop 2).drop 4)) (beval ((bs.drop 1).take 2)) = o at h
      match o with
      | none => cases h
      | some s =>
        unfold fin at h
        simp only at h
        split at h
        · cases h
          exact (pl_fit (by rw [List.length_drop, List.length_drop, List.length_drop]; omega) _ _ hp).fits (Nat.le_of_lt (beval_lt2 _)) _ _
        · cases h
    · cases h
set_option maxHeartbeats 4000000 in
set_option maxRecDepth 100000 in
theorem codes_walk {w : World} {N : Nd} {vk vv vi pv : Value} {bs : List UInt8} (h : NdAt w N vk vv vi) (hf : Fits N) (hb : Sl w pv bs) (hbl : bs.length ≤ 140737488355328) :
    Calls Try.prog 5 #[.agg #[.bool N.leaf, vk, vv, vi, .int .i64 N.next], pv] w fun e w' => e = .returned (.bool true) ∧ Below w.heap.size w w' := by
  obtain ⟨ak, ck, rfl, _, _⟩ := h.keys.len
  obtain ⟨av, cv, rfl, _, _⟩ := h.vals.len
  obtain ⟨ai, ci, rfl, _, _⟩ := h.kids.len
  obtain ⟨pa, pc, rfl, _, _⟩ := hb.len
  have HF := hide hf
  have hq0 : Below w.heap.size w (w.alloc (.cells #[.bool N.leaf, .slice ak N.keys.length ck, .slice av N.vals.length cv, .slice ai N.kids.length ci, .int .i64 N.next] 26)) := (Below.refl _ _).alloc (Nat.le_refl _) _
  have HB0 := hide hq0
  have NX0 : Hid (Box 26 (w.alloc (.cells #[.bool N.leaf, .slice ak N.keys.length ck, .slice av N.vals.length cv, .slice ai N.kids.length ci, .int .i64 N.next] 26)) w.heap.size (.bool N.leaf) (.slice ak N.keys.length ck) (.slice av N.vals.length cv) (.slice ai N.kids.length ci) (.int .i64 N.next)) := Box.new _ _ _ _ _ _
  have NA0 := hide (h.belowW hq0)
  have PS0 := hide (hb.belowW hq0)
  clear h hf hb hq0
  go_enter Try.func5, Try.ntmps5
  go_upto_region 1 with fail
  generalize w.alloc (.cells #[.bool N.leaf, .slice ak N.keys.length ck, .slice av N.vals.length cv, .slice ai N.kids.length ci, .int .i64 N.next] 26) = W0 at *
  have HE1 := hide (encode_any NA0.out HF.out)
  obtain ⟨k0, k1, k2, k3, k4, f0, f1, f2, f3, f4⟩ := NX0.out.cells
  go_wp2_with fail
  refine HE1.out.mono ?_
  clear k0 k1 k2 k3 k4 f0 f1 f2 f3 f4 HE1
  rintro e W1 hE
  obtain ⟨a1, c1, rfl, hs1⟩ := enc_told hE
  have HB1 := hide (HB0.out.trans (hE.below.mono HB0.out.size))
  have NX1 := hide (NX0.out.belowW hE.below)
  have NA1 := hide (NA0.out.belowW hE.below)
  have PS1 := hide (PS0.out.belowW hE.below)
  have PA1 := hide hs1
  clear hE hs1 NX0 NA0 PS0 HB0
  go_upto_region 2 with fail
  have HTO := hide (to_any NA1.out HF.out)
  obtain ⟨k0, k1, k2, k3, k4, f0, f1, f2, f3, f4⟩ := NX1.out.cells
  go_wp2_with fail
  refine HTO.out.mono ?_
  clear k0 k1 k2 k3 k4 f0 f1 f2 f3 f4 HTO
  rintro e W2 ⟨uk, uv, rfl, hq2, hr2⟩
  have HE2 := hide (rencode_any hr2 HF.out)
  have HB2 := hide (HB1.out.trans (hq2.mono HB1.out.size))
  have PS2 := hide (PS1.out.belowW hq2)
  have PA2 := hide (PA1.out.belowW hq2)
  obtain ⟨a5, c5, rfl, _, _⟩ := hr2.keys.len
  obtain ⟨a6, c6, rfl, _, _⟩ := hr2.vals.len
  clear hq2 hr2 NX1 NA1 PS1 PA1 HB1
  go_wp2_with fail
  refine HE2.out.mono ?_
  clear HE2
  rintro e W3 hE
  obtain ⟨a2, c2, rfl, hs3⟩ := enc_told hE
  have HB3 := hide (HB2.out.trans (hE.below.mono HB2.out.size))
  have PS3 := hide (PS2.out.belowW hE.below)
  have PA3 := hide (PA2.out.belowW hE.below)
  have PB3 := hide hs3
  clear hE hs3 PS2 PA2 HB2
  generalize encP N = P at *
  generalize encC N = C at *
  go_upto_region 3 with fail
  have HFM := hide (dcf_fits bs)
  have HD1 : Hid (∀ W, Sl W (.slice pa bs.length pc) bs → Calls Try.prog 19 #[.slice pa bs.length pc] W fun e w' => ∃ a b c, e = .returned (.tuple #[.agg #[.bool ((dcf bs).getD Nd.zero).leaf, a, b, c, .int .i64 ((dcf bs).getD Nd.zero).next], .bool (dcf bs).isSome]) ∧ Below W.heap.size W w' ∧ NdAt w' ((dcf bs).getD Nd.zero) a b c) := fun W h => decode_any h
  have HD2 : Hid (∀ W, Sl W (.slice pa bs.length pc) bs → Calls Try.prog 20 #[.slice pa bs.length pc] W fun e w' => ∃ a b c, e = .returned (.tuple #[.agg #[.bool ((dcf bs).getD Nd.zero).leaf, a, b, c, .int .i64 ((dcf bs).getD Nd.zero).next], .bool (dcf bs).isSome]) ∧ Below W.heap.size W w' ∧ RdAt w' ((dcf bs).getD Nd.zero) a b c) := fun W h => rdecode_any h
  generalize (dcf bs).getD Nd.zero = M at *
  generalize (dcf bs).isSome = sm at *
  have HC1 := hide (HD1.out W3 PS3.out)
  go_wp2_with fail
  refine HC1.out.mono ?_
  clear HD1 HC1
  rintro e W4 ⟨z1, z2, z3, rfl, hq4, hn4⟩
  obtain ⟨x1, d1, rfl, _, _⟩ := hn4.keys.len
  obtain ⟨x2, d2, rfl, _, _⟩ := hn4.vals.len
  obtain ⟨x3, d3, rfl, _, _⟩ := hn4.kids.len
  have hqa : Below W4.heap.size W4 (W4.alloc (.cells #[.bool M.leaf, .slice x1 M.keys.length d1, .slice x2 M.vals.length d2, .slice x3 M.kids.length d3, .int .i64 M.next] 26)) := (Below.refl _ _).alloc (Nat.le_refl _) _
  have hq4' := hq4.trans (hqa.mono hq4.size)
  have HB4 := hide (HB3.out.trans (hq4'.mono HB3.out.size))
  have PS4 := hide (PS3.out.belowW hq4')
  have PA4 := hide (PA3.out.belowW hq4')
  have PB4 := hide (PB3.out.belowW hq4')
  have XA4 := hide (hn4.belowW hqa)
  have XB4 : Hid (Box 26 (W4.alloc (.cells #[.bool M.leaf, .slice x1 M.keys.length d1, .slice x2 M.vals.length d2, .slice x3 M.kids.length d3, .int .i64 M.next] 26)) W4.heap.size (.bool M.leaf) (.slice x1 M.keys.length d1) (.slice x2 M.vals.length d2) (.slice x3 M.kids.length d3) (.int .i64 M.next)) := Box.new _ _ _ _ _ _
  clear hn4 hq4 hq4' hqa HB3 PS3 PA3 PB3
  go_upto_region 4 with fail
  generalize W4.alloc (.cells #[.bool M.leaf, .slice x1 M.keys.length d1, .slice x2 M.vals.length d2, .slice x3 M.kids.length d3, .int .i64 M.next] 26) = W5 at *
  generalize W4.heap.size = bx at *
  have HC2 := hide (HD2.out W5 PS4.out)
  go_wp2_with fail
  refine HC2.out.mono ?_
  clear HD2 HC2
  rintro e W6 ⟨z1, z2, z3, rfl, hq6, hn6⟩
  obtain ⟨y1, e1, rfl, _, _⟩ := hn6.keys.len
  obtain ⟨y2, e2, rfl, _, _⟩ := hn6.vals.len
  obtain ⟨y3, e3, rfl, _, _⟩ := hn6.kids.len
  have hqa : Below W6.heap.size W6 (W6.alloc (.cells #[.bool M.leaf, .slice y1 M.keys.length e1, .slice y2 M.vals.length e2, .slice y3 M.kids.length e3, .int .i64 M.next] 43)) := (Below.refl _ _).alloc (Nat.le_refl _) _
  have hq6' := hq6.trans (hqa.mono hq6.size)
  have HB6 := hide (HB4.out.trans (hq6'.mono HB4.out.size))
  have PA6 := hide (PA4.out.belowW hq6')
  have PB6 := hide (PB4.out.belowW hq6')
  have XA6 := hide (XA4.out.belowW hq6')
  have XB6 := hide (XB4.out.belowW hq6')
  have YA6 := hide (hn6.belowW hqa)
  have YB6 : Hid (Box 43 (W6.alloc (.cells #[.bool M.leaf, .slice y1 M.keys.length e1, .slice y2 M.vals.length e2, .slice y3 M.kids.length e3, .int .i64 M.next] 43)) W6.heap.size (.bool M.leaf) (.slice y1 M.keys.length e1) (.slice y2 M.vals.length e2) (.slice y3 M.kids.length e3) (.int .i64 M.next)) := Box.new _ _ _ _ _ _
  clear hn6 hq6 hq6' hqa HB4 PS4 PA4 PB4 XA4 XB4
  go_upto_region 5 with fail
  generalize W6.alloc (.cells #[.bool M.leaf, .slice y1 M.keys.length e1, .slice y2 M.vals.length e2, .slice y3 M.kids.length e3, .int .i64 M.next] 43) = W7 at *
  generalize W6.heap.size = by' at *
  refine wp_region_held_drew (S := fun w' => Below W7.heap.size W7 w') (by kernel_rfl) (below_drewN _ _ 1) (fun hH => ?_)
  refine take_to 0 34 (.slice a1 P.length c1) rfl (by kernel_rfl) (by kernel_rfl) (by kernel_rfl) (fun _ _ _ h => h) rfl (by rfl) (fun w hw => by rfl) hH ?_
  simp only [Act.put, List.setIfInBounds_toArray, List.set_cons_zero, List.set_cons_succ]
  refine take_to 1 35 (.string (strOf P)) rfl (by kernel_rfl) (by kernel_rfl) (by kernel_rfl) (fun _ _ _ h => h) rfl (by rfl) (fun w hw => op_conv _ _ 28 9 (.tmp 34) rfl _ _ rfl (run_str (PA6.out.belowW hw))) hH ?_
  simp only [Act.put, List.setIfInBounds_toArray, List.set_cons_zero, List.set_cons_succ]
  refine take_to 2 36 (.slice a2 P.length c2) rfl (by kernel_rfl) (by kernel_rfl) (by kernel_rfl) (fun _ _ _ h => h) rfl (by rfl) (fun w hw => by rfl) hH ?_
  simp only [Act.put, List.setIfInBounds_toArray, List.set_cons_zero, List.set_cons_succ]
  refine take_to 3 37 (.string (strOf P)) rfl (by kernel_rfl) (by kernel_rfl) (by kernel_rfl) (fun _ _ _ h => h) rfl (by rfl) (fun w hw => op_conv _ _ 28 9 (.tmp 36) rfl _ _ rfl (run_str (PB6.out.belowW hw))) hH ?_
  simp only [Act.put, List.setIfInBounds_toArray, List.set_cons_zero, List.set_cons_succ]
  refine take_to 4 38 (.bool true) rfl (by kernel_rfl) (by kernel_rfl) (by kernel_rfl) (fun _ _ _ h => h) rfl (by rfl) (fun w hw => op_eql9 _ _ (.tmp 35) (.tmp 37) _ rfl (strOf P) rfl rfl) hH ?_
  simp only [Act.put, List.setIfInBounds_toArray, List.set_cons_zero, List.set_cons_succ]
  refine take_to 5 39 (.bool true) rfl (by kernel_rfl) (by kernel_rfl) (by kernel_rfl) (fun _ _ _ h => h) rfl (by rfl) (fun w hw => by rfl) hH ?_
  simp only [Act.put, List.setIfInBounds_toArray, List.set_cons_zero, List.set_cons_succ]
  refine take_to 6 40 (.int .i64 C) rfl (by kernel_rfl) (by kernel_rfl) (by kernel_rfl) (fun _ _ _ h => h) rfl (by rfl) (fun w hw => by rfl) hH ?_
  simp only [Act.put, List.setIfInBounds_toArray, List.set_cons_zero, List.set_cons_succ]
  refine take_to 7 41 (.int .i64 C) rfl (by kernel_rfl) (by kernel_rfl) (by kernel_rfl) (fun _ _ _ h => h) rfl (by rfl) (fun w hw => by rfl) hH ?_
  simp only [Act.put, List.setIfInBounds_toArray, List.set_cons_zero, List.set_cons_succ]
  refine take_to 8 42 (.bool true) rfl (by kernel_rfl) (by kernel_rfl) (by kernel_rfl) (fun _ _ _ h => h) rfl (by rfl) (fun w hw => op_eql3 _ _ (.tmp 40) (.tmp 41) _ rfl C C rfl rfl true (by simp)) hH ?_
  simp only [Act.put, List.setIfInBounds_toArray, List.set_cons_zero, List.set_cons_succ]
  refine take_to 9 43 (.bool true) rfl (by kernel_rfl) (by kernel_rfl) (by kernel_rfl) (fun _ _ _ h => h) rfl (by rfl) (fun w hw => by rfl) hH ?_
  simp only [Act.put, List.setIfInBounds_toArray, List.set_cons_zero, List.set_cons_succ]
  refine take_to 10 44 (.bool true) rfl (by kernel_rfl) (by kernel_rfl) (by kernel_rfl) (fun _ _ _ h => h) rfl (by rfl) (fun w hw => by rfl) hH ?_
  simp only [Act.put, List.setIfInBounds_toArray, List.set_cons_zero, List.set_cons_succ]
  refine take_to 11 45 (.agg #[.bool M.leaf, .slice x1 M.keys.length d1, .slice x2 M.vals.length d2, .slice x3 M.kids.length d3, .int .i64 M.next]) rfl (by kernel_rfl) (by kernel_rfl) (by kernel_rfl) (fun _ _ _ h => h) rfl (by rfl) (fun w hw => op_load _ _ 26 (.tmp 9) rfl (.pointer (some ⟨_, 0, none⟩)) _ rfl (load26 (XB6.out.belowW hw))) hH ?_
  simp only [Act.put, List.setIfInBounds_toArray, List.set_cons_zero, List.set_cons_succ]
  refine take_to 13 47 (.agg #[.bool M.leaf, .slice y1 M.keys.length e1, .slice y2 M.vals.length e2, .slice y3 M.kids.length e3, .int .i64 M.next]) rfl (by kernel_rfl) (by kernel_rfl) (by kernel_rfl) (fun _ _ _ h => h) rfl (by rfl) (fun w hw => op_load _ _ 43 (.tmp 11) rfl (.pointer (some ⟨_, 0, none⟩)) _ rfl (load43 (YB6.out.belowW hw))) hH ?_
  simp only [Act.put, List.setIfInBounds_toArray, List.set_cons_zero, List.set_cons_succ]
  have HTO := hide (to_any (XA6.out.belowW hH) HFM.out)
  refine step_call1_to 12 46 17 rfl (by kernel_rfl) rfl (by rfl) (.tmp 45) _ rfl _ rfl Try.enters17 HTO.out ?_
  rintro e T1 ⟨r1, r2, rfl, hq1, hr1⟩
  have hT1 := hH.trans (hq1.mono hH.size)
  refine ⟨_, rfl, hT1, ?_⟩
  simp only [Act.put, List.setIfInBounds_toArray, List.set_cons_zero, List.set_cons_succ]
  have HSM := hide (same_any hr1 (YA6.out.belowW hT1) HFM.out)
  refine step_call2_to 14 48 16 rfl (by kernel_rfl) rfl (by rfl) (.tmp 46) (.tmp 47) _ rfl _ _ rfl rfl Try.enters16 HSM.out ?_
  rintro e T2 ⟨rfl, hq2⟩
  have hT2 := hT1.trans (hq2.mono hT1.size)
  refine ⟨_, rfl, hT2, ?_⟩
  simp only [Act.put, List.setIfInBounds_toArray, List.set_cons_zero, List.set_cons_succ]
  refine take_to 15 49 (.bool true) rfl (by kernel_rfl) (by kernel_rfl) (by kernel_rfl) (fun _ _ _ h => h) rfl (by rfl) (fun w hw => by rfl) hT2 ?_
  simp only [Act.put, List.setIfInBounds_toArray, List.set_cons_zero, List.set_cons_succ]
  refine take_to 16 50 (.bool true) rfl (by kernel_rfl) (by kernel_rfl) (by kernel_rfl) (fun _ _ _ h => h) rfl (by rfl) (fun w hw => by rfl) hT2 ?_
  simp only [Act.put, List.setIfInBounds_toArray, List.set_cons_zero, List.set_cons_succ]
  refine take_to 17 51 (.bool sm) rfl (by kernel_rfl) (by kernel_rfl) (by kernel_rfl) (fun _ _ _ h => h) rfl (by rfl) (fun w hw => by rfl) hT2 ?_
  simp only [Act.put, List.setIfInBounds_toArray, List.set_cons_zero, List.set_cons_succ]
  refine take_to 18 52 (.bool sm) rfl (by kernel_rfl) (by kernel_rfl) (by kernel_rfl) (fun _ _ _ h => h) rfl (by rfl) (fun w hw => by rfl) hT2 ?_
  simp only [Act.put, List.setIfInBounds_toArray, List.set_cons_zero, List.set_cons_succ]
  refine take_to 19 53 (.bool true) rfl (by kernel_rfl) (by kernel_rfl) (by kernel_rfl) (fun _ _ _ h => h) rfl (by rfl) (fun w hw => op_eql4 _ _ (.tmp 51) (.tmp 52) _ rfl sm rfl rfl) hT2 ?_
  simp only [Act.put, List.setIfInBounds_toArray, List.set_cons_zero, List.set_cons_succ]
  refine take_to 20 54 (.bool true) rfl (by kernel_rfl) (by kernel_rfl) (by kernel_rfl) (fun _ _ _ h => h) rfl (by rfl) (fun w hw => by rfl) hT2 ?_
  simp only [Act.put, List.setIfInBounds_toArray, List.set_cons_zero, List.set_cons_succ]
  refine take_to 21 55 (.bool true) rfl (by kernel_rfl) (by kernel_rfl) (by kernel_rfl) (fun _ _ _ h => h) rfl (by rfl) (fun w hw => by rfl) hT2 ?_
  simp only [Act.put, List.setIfInBounds_toArray, List.set_cons_zero, List.set_cons_succ]
  refine step_call0_to 22 56 11 rfl (by kernel_rfl) rfl (by rfl) _ rfl Try.enters11 (awake_any T2) ?_
  rintro e T4 ⟨rfl, hq4⟩
  have hT4 := hT2.trans (hq4.mono hT2.size)
  refine ⟨_, rfl, hT4, ?_⟩
  simp only [Act.put, List.setIfInBounds_toArray, List.set_cons_zero, List.set_cons_succ]
  refine step_to 23 57 (.bool true) T4 rfl (by kernel_rfl) rfl (by rfl) (by rfl) hT4 ?_
  simp only [Act.put, List.setIfInBounds_toArray, List.set_cons_zero, List.set_cons_succ]
  refine step_to 24 4 (.bool true) T4 rfl (by kernel_rfl) rfl (by rfl) (by rfl) hT4 ?_
  simp only [Act.put, List.setIfInBounds_toArray, List.set_cons_zero, List.set_cons_succ]
  refine wpAnyH_done (by kernel_rfl) ?_ _
  have HEND := hide (HB6.out.trans (hT4.mono HB6.out.size))
  clear hT4 hT2 hT1 hH hr1 hq1 hq2 hq4
  go_wp2
  go_ret
  exact ⟨rfl, HEND.out⟩
end Go.Proofs.Ytjcobejaldfibaa
