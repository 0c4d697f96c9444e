/- A force that never fails; awake. -/
import Derived.Test.YtifoafiidplpiaaPList
namespace Go.Proofs.Ytifoafiidplpiaa
open Go.RowKit
set_option linter.unusedVariables false
set_option linter.unusedSimpArgs false

def Force.idle (g : Nat) (he : ∀ args w, (callFunc g args).run Try.prog w = .ok (.enter g args) w) (hc : ∀ (l : Int) (w : World), Calls Try.prog g #[.int .i64 l] w fun e w' => e = .returned (.int .i64 0) ∧ w' = w) : Force where
  σ := Unit
  g := g
  cb := #[]
  held := fun _ ff _ => ff = []
  step := fun _ _ => (0, ())
  ok := fun _ => True
  stay := fun _ _ _ _ h _ _ => h
  lim := fun _ _ _ h k hk => by rw [h] at hk; simp at hk
  enters := he
  call := fun w ff s l h _ _ _ => (hc l w).mono (fun e w' ⟨h1, h2⟩ => ⟨h1, ff, h, by rw [h2]; exact Off.refl _ _, fun k hk => .inl hk⟩)
theorem idle9 (l : Int) (w : World) : Calls Try.prog 9 #[.int .i64 l] w fun e w' => e = .returned (.int .i64 0) ∧ w' = w := by
  go_enter Try.func9, Try.ntmps9
  go_wp2
  go_ret
  exact ⟨rfl, rfl⟩
theorem idle40 (l : Int) (w : World) : Calls Try.prog 40 #[.int .i64 l] w fun e w' => e = .returned (.int .i64 0) ∧ w' = w := by
  go_enter Try.func40, Try.ntmps40
  go_wp2
  go_ret
  exact ⟨rfl, rfl⟩
def Φ9 : Force := Force.idle 9 (enters_of Try.func9 (by kernel_rfl) rfl) idle9
def Φ40 : Force := Force.idle 40 (enters_of Try.func40 (by kernel_rfl) rfl) idle40
theorem run_strS (w : World) (g n c : Nat) (bs : List UInt8) (hl : bs.length = n) (h : SrcAt w g 0 bs) :
    (convert 37 9 (.slice (some ⟨g, 0, none⟩) n c)).run Try.prog w = .ok (.string (strOf bs)) w := by
  rw [run_convert_bytes_string w 37 9 5 _ _ _ Try.underlying37 Try.underlying5 Try.underlying9]
  have hload : (loadCells ⟨g, 0, none⟩ n).run Try.prog w = .ok ((bs.map fun b => (b.toNat : Int)).map (Value.int .u8)).toArray w := by
    have := run_loadCells_list (P := Try.prog) w ⟨g, 0, none⟩ (secCells bs) h.2
    rw [length_secCells, hl] at this
    rw [this]
    simp [secCells, bcell]
  rw [run_bytesToString w _ _ _ _ hload, foldl_push]
  simp [strOf]
section
variable {Φ : Force} {w0 w w' : World} {P G q p n : Nat} {xs bl ff : List Nat} {vs : List Value} {S : Pl Φ.σ} {D D' : Dv}
theorem pool_has (h : PoolAt Φ w0 w P G q p n xs S) (m : Int) : Calls Try.prog 25 #[.pointer (some ⟨P, 0, none⟩), .int .i64 m] w fun e w' => e = .returned (.bool (S.find m).isSome) ∧ w' = w := let ⟨_, _, _, _, x⟩ := h; has_any x m
theorem pool_writes (h : PoolAt Φ w0 w P G q p n xs S) : Calls Try.prog 15 #[.pointer (some ⟨P, 0, none⟩)] w fun e w' => e = .returned (.int .i64 (S.wr : Int)) ∧ w' = w := let ⟨_, _, _, _, x⟩ := h; writes_any x
theorem pool_dirty (h : PoolAt Φ w0 w P G q p n xs S) (h12 : (dirtL S.fs).length ≤ 12) :
    Calls Try.prog 14 #[.pointer (some ⟨P, 0, none⟩)] w fun e w' => ∃ v d, e = .returned v ∧ DirtAt w' v d ∧ d.Perm (dirtL S.fs) ∧ d.Pairwise (fun x y => x.1 ≤ y.1) ∧ Below w.heap.size w w' := let ⟨_, _, _, _, x⟩ := h; dirty_any x h12
/-- A new device of N sectors, a file of n pages at its beginning, a pool of m frames before it. -/
theorem disk_fresh (N n : Nat) (hn : 5 + 4 * n ≤ N) (i : Nat) (hi : i < n) : pageL (Dv.fresh N).L (0 + 5 + 4 * i) = (List.replicate n (zerosN 512)).getD i [] := by
  rw [fresh_page N _ (by omega)]
  simp [List.getD_eq_getElem?_getD, hi]
theorem disk_len (n i : Nat) (hi : i < n) : ((List.replicate n (zerosN 512)).getD i []).length = 512 := by
  rw [List.getD_eq_getElem?_getD, List.getElem?_replicate, if_pos hi]
  exact length_zerosN 512
end

/-! ### awake -/
def aw0 : Pl Unit := Pl.made 1 (List.replicate 4 (zerosN 512)) ()
def aw1 (b : List UInt8) : Pl Unit := ⟨[⟨true, 0, b, true, true, 5, 5⟩], 0, 0, List.replicate 4 (zerosN 512), ()⟩
def aw2 (b : List UInt8) : Pl Unit := ⟨[⟨true, 1, zerosN 512, true, false, 0, 0⟩], 0, 1, (List.replicate 4 (zerosN 512)).set 0 b, ()⟩
def aw3 (b : List UInt8) : Pl Unit := ⟨[⟨true, 0, b, true, false, 0, 0⟩], 0, 1, (List.replicate 4 (zerosN 512)).set 0 b, ()⟩
theorem aw_put (b : List UInt8) : Pl.put (Φ := Φ40) aw0 4 0 b 5 = (0, aw1 b) := rfl
theorem aw_get1 (b : List UInt8) : Pl.get (Φ := Φ40) (aw1 b) 4 1 = (zerosN 512, 0, aw2 b) := by kernel_rfl
theorem aw_get0 (b : List UInt8) : Pl.get (Φ := Φ40) (aw2 b) 4 0 = (b, 0, aw3 b) := by kernel_rfl
theorem op_eqlstrY (ρ : Operand → Value) (o : Oper) (x y : Operand) (tt : TypeId) (ho : o.op = .binOp .eql 9 x y tt) (Y : ByteArray) (hx : ρ x = .string Y) (hy : ρ y = .string Y) {w : World} : (execOp ρ o).run Try.prog w = .ok (.value (.bool true)) w := by
  have hu := Try.underlying9
  have he : (Y.toList == Y.toList) = true := by simp
  unfold execOp
  simp only [ho, hx, hy]
  simp [go_sem, hu, he]
theorem Try.enters15 (args : Array Value) (w : World) : (callFunc 15 args).run Try.prog w = .ok (.enter 15 args) w := by kernel_rfl
theorem Try.enters25 (args : Array Value) (w : World) : (callFunc 25 args).run Try.prog w = .ok (.enter 25 args) w := by kernel_rfl
set_option maxHeartbeats 4000000 in
set_option maxRecDepth 100000 in
theorem awake_any (w : World) : Calls Try.prog 16 #[] w fun e w' => e = .returned (.bool true) ∧ Below w.heap.size w w' := by
  have hm0 := mend_idle (D := Dv.fresh 40) rfl rfl 0 4 (fresh_head 40 0 (by omega))
  go_enter Try.func16, Try.ntmps16
  go_wp2_with fail
  refine (b_new 40 w (by omega) (by omega)).mono ?_
  rintro e w1 ⟨p, rfl, hD1⟩
  have HOP := hide (b_openOk 0 4 hD1 (by omega) (by simp [Dv.fresh]) (by simp [Dv.fresh]) hm0)
  clear hD1 hm0
  go_wp2_with fail
  refine HOP.out.mono ?_
  rintro e w2 ⟨q, rfl, hF2, _⟩
  clear HOP
  have HN : Hid (Calls Try.prog 8 #[.pointer (some ⟨q, 0, none⟩), .int .i64 1, .func (.func 40) #[] #[]] w2 fun e w' => ∃ P G, e = .returned (.tuple #[.pointer (some ⟨P, 0, none⟩), .int .i64 0]) ∧ PoolAt Φ40 w w' P G q p 4 [] aw0 ∧ Below w2.heap.size w2 w') :=
    newp_ok (Φ := Φ40) (ff := []) (xs := []) 1 (by omega) (by omega) hF2 (well_more (fresh_well 40 (by omega) (by omega)) 1) (by rw [more_W]; rfl) (by rw [more_L]; simp [Dv.fresh]) (List.replicate 4 (zerosN 512)) (fun i hi => by rw [more_L]; exact disk_fresh 40 4 (by omega) i hi) (by simp) (disk_len 4) () rfl (fun k hk => by simp at hk) (fun k hk => by simp at hk)
  clear hF2
  go_wp2_with fail
  refine HN.out.mono ?_
  rintro e w3 ⟨P, G, rfl, hP3, _⟩
  clear HN
  go_wp2_with fail
  refine (page_any 1 1 w3).mono ?_
  rintro e w4 ⟨rfl, hg4, hb4⟩
  obtain ⟨B, hB⟩ : ∃ B, pg 1 1 = B := ⟨_, rfl⟩
  have HPG := hide (fun W => page_any 1 1 W)
  have HL : Hid (B.length = 512) := by show _ = _; rw [← hB]; exact length_pg _ _
  rw [hB] at hg4 HPG
  clear hB
  have h4 : PoolAt Φ40 w w4 P G q p 4 [w3.heap.size] aw0 := hP3.mindNew hb4 (fun k hk => by simp at hk; subst hk; exact .inr ⟨Nat.le_refl _, (Array.getElem?_eq_some_iff.1 hg4).1⟩)
  have HPU := hide (put_any (c := 512) h4 0 w3.heap.size B HL.out (by simp) (SrcAt.block hg4) 5 (by omega) (by omega) trivial (fun f hf => by simp [aw0, Pl.made] at hf; subst hf; simp [Fm.nil]) (by simp [aw0, Pl.made]))
  rw [aw_put] at HPU
  clear hP3 hg4 hb4 h4
  go_wp2_with fail
  refine HPU.out.mono ?_
  rintro e w5 ⟨rfl, h5, _⟩
  clear HPU
  have H5 := hide h5
  have HDI := hide (pool_dirty h5 (by simp [aw1, dirtL]))
  clear h5
  go_wp2_with fail
  refine HDI.out.mono ?_
  rintro e w6 ⟨v, d, rfl, ⟨ao, c6, rfl, _⟩, hperm, _, hb6⟩
  have hlen : d.length = 1 := by rw [hperm.length_eq]; simp [aw1, dirtL]
  rw [hlen]
  have h6 := H5.out.belowW hb6
  have HG1 := hide (get_ok h6 1 trivial (fun f hf => by simp [aw1] at hf; subst hf; intro _; exact ⟨by simp, by simp, HL.out⟩) (fun f hf => by simp [aw1] at hf; subst hf; intro _; exact HL.out) (by simp [aw1]) (by rw [aw_get1]))
  rw [aw_get1] at HG1
  clear h6 hperm hlen hb6 H5 HDI
  go_wp2_with fail
  refine HG1.out.mono ?_
  rintro e w7 ⟨gx, cx, curx, rfl, _, _, h7, _⟩
  have HG0 := hide (get_ok h7 0 trivial (fun f hf => by simp [aw2] at hf; subst hf; simp) (fun f hf => by simp [aw2] at hf; subst hf; intro _; simp [zerosN]) (by simp [aw2]) (by rw [aw_get0]))
  rw [aw_get0] at HG0
  clear HG1 h7
  go_wp2_with fail
  refine HG0.out.mono ?_
  rintro e w8 ⟨gy, cy, cury, rfl, _, hk8, h8, _⟩
  clear HG0
  have HWR : Hid (∀ W, Below w8.heap.size w8 W → Calls Try.prog 15 #[.pointer (some ⟨P, 0, none⟩)] W fun e w' => e = .returned (.int .i64 1) ∧ w' = W) := fun W hb => pool_writes (h8.belowW hb)
  have HH0 : Hid (∀ W, Below w8.heap.size w8 W → Calls Try.prog 25 #[.pointer (some ⟨P, 0, none⟩), .int .i64 0] W fun e w' => e = .returned (.bool true) ∧ w' = W) := fun W hb => pool_has (h8.belowW hb) 0
  have HH1 : Hid (∀ W, Below w8.heap.size w8 W → Calls Try.prog 25 #[.pointer (some ⟨P, 0, none⟩), .int .i64 1] W fun e w' => e = .returned (.bool false) ∧ w' = W) := fun W hb => pool_has (h8.belowW hb) 1
  have HB8 := hide h8.below
  have hsr := hk8.src
  clear h8 hk8
  go_wp2_with fail
  refine wp_region_held_drew (S := fun w' => SrcAt w' gy 0 B) (by kernel_rfl) hsr (fun hH => ?_)
  refine take_to 0 49 (.int .i64 0) rfl (by kernel_rfl) (by kernel_rfl) (by kernel_rfl) (fun _ _ _ h => h) rfl (by rfl) (fun w hw => by rfl) hH ?_
  simp only [Act.put, List.setIfInBounds_toArray, List.set_cons_zero, List.set_cons_succ]
  refine take_to 1 50 (.bool true) rfl (by kernel_rfl) (by kernel_rfl) (by kernel_rfl) (fun _ _ _ h => h) rfl (by rfl) (fun w hw => op_eql24 _ _ (.tmp 49) _ 24 rfl _ _ rfl rfl _ (by rfl)) hH ?_
  simp only [Act.put, List.setIfInBounds_toArray, List.set_cons_zero, List.set_cons_succ]
  refine take_to 2 51 (.bool true) rfl (by kernel_rfl) (by kernel_rfl) (by kernel_rfl) (fun _ _ _ h => h) rfl (by rfl) (fun w hw => by rfl) hH ?_
  simp only [Act.put, List.setIfInBounds_toArray, List.set_cons_zero, List.set_cons_succ]
  refine take_to 3 52 (.int .i64 0) rfl (by kernel_rfl) (by kernel_rfl) (by kernel_rfl) (fun _ _ _ h => h) rfl (by rfl) (fun w hw => by rfl) hH ?_
  simp only [Act.put, List.setIfInBounds_toArray, List.set_cons_zero, List.set_cons_succ]
  refine take_to 4 53 (.bool true) rfl (by kernel_rfl) (by kernel_rfl) (by kernel_rfl) (fun _ _ _ h => h) rfl (by rfl) (fun w hw => op_eql24 _ _ (.tmp 52) _ 24 rfl _ _ rfl rfl _ (by rfl)) hH ?_
  simp only [Act.put, List.setIfInBounds_toArray, List.set_cons_zero, List.set_cons_succ]
  refine take_to 5 54 (.bool true) rfl (by kernel_rfl) (by kernel_rfl) (by kernel_rfl) (fun _ _ _ h => h) rfl (by rfl) (fun w hw => by rfl) hH ?_
  simp only [Act.put, List.setIfInBounds_toArray, List.set_cons_zero, List.set_cons_succ]
  refine take_to 6 55 (.bool true) rfl (by kernel_rfl) (by kernel_rfl) (by kernel_rfl) (fun _ _ _ h => h) rfl (by rfl) (fun w hw => by rfl) hH ?_
  simp only [Act.put, List.setIfInBounds_toArray, List.set_cons_zero, List.set_cons_succ]
  refine take_to 7 56 (.int .i64 0) rfl (by kernel_rfl) (by kernel_rfl) (by kernel_rfl) (fun _ _ _ h => h) rfl (by rfl) (fun w hw => by rfl) hH ?_
  simp only [Act.put, List.setIfInBounds_toArray, List.set_cons_zero, List.set_cons_succ]
  refine take_to 8 57 (.bool true) rfl (by kernel_rfl) (by kernel_rfl) (by kernel_rfl) (fun _ _ _ h => h) rfl (by rfl) (fun w hw => op_eql24 _ _ (.tmp 56) _ 24 rfl _ _ rfl rfl _ (by rfl)) hH ?_
  simp only [Act.put, List.setIfInBounds_toArray, List.set_cons_zero, List.set_cons_succ]
  refine take_to 9 58 (.bool true) rfl (by kernel_rfl) (by kernel_rfl) (by kernel_rfl) (fun _ _ _ h => h) rfl (by rfl) (fun w hw => by rfl) hH ?_
  simp only [Act.put, List.setIfInBounds_toArray, List.set_cons_zero, List.set_cons_succ]
  refine take_to 10 59 (.bool true) rfl (by kernel_rfl) (by kernel_rfl) (by kernel_rfl) (fun _ _ _ h => h) rfl (by rfl) (fun w hw => by rfl) hH ?_
  simp only [Act.put, List.setIfInBounds_toArray, List.set_cons_zero, List.set_cons_succ]
  refine take_to 11 60 (.int .i64 1) rfl (by kernel_rfl) (by kernel_rfl) (by kernel_rfl) (fun _ _ _ h => h) rfl (by rfl) (fun w hw => by rfl) hH ?_
  simp only [Act.put, List.setIfInBounds_toArray, List.set_cons_zero, List.set_cons_succ]
  refine take_to 12 61 (.bool true) rfl (by kernel_rfl) (by kernel_rfl) (by kernel_rfl) (fun _ _ _ h => h) rfl (by rfl) (fun w hw => op_eql3 _ _ (.tmp 60) _ 3 rfl _ _ rfl rfl _ (by rfl)) hH ?_
  simp only [Act.put, List.setIfInBounds_toArray, List.set_cons_zero, List.set_cons_succ]
  refine take_to 13 62 (.bool true) rfl (by kernel_rfl) (by kernel_rfl) (by kernel_rfl) (fun _ _ _ h => h) rfl (by rfl) (fun w hw => by rfl) hH ?_
  simp only [Act.put, List.setIfInBounds_toArray, List.set_cons_zero, List.set_cons_succ]
  refine take_to 14 63 (.bool true) rfl (by kernel_rfl) (by kernel_rfl) (by kernel_rfl) (fun _ _ _ h => h) rfl (by rfl) (fun w hw => by rfl) hH ?_
  simp only [Act.put, List.setIfInBounds_toArray, List.set_cons_zero, List.set_cons_succ]
  refine take_to 15 64 (.pointer (some ⟨P, 0, none⟩)) rfl (by kernel_rfl) (by kernel_rfl) (by kernel_rfl) (fun _ _ _ h => h) rfl (by rfl) (fun w hw => by rfl) hH ?_
  simp only [Act.put, List.setIfInBounds_toArray, List.set_cons_zero, List.set_cons_succ]
  refine step_call1_to 16 65 15 rfl (by kernel_rfl) rfl (by rfl) (.tmp 64) _ rfl _ rfl Try.enters15 (HWR.out _ (below_drewN _ _ 1)) ?_
  rintro e wa ⟨rfl, hwa⟩
  subst hwa
  refine ⟨_, rfl, hH, ?_⟩
  simp only [Act.put, List.setIfInBounds_toArray, List.set_cons_zero, List.set_cons_succ]
  refine take_to 17 66 (.bool true) rfl (by kernel_rfl) (by kernel_rfl) (by kernel_rfl) (fun _ _ _ h => h) rfl (by rfl) (fun w hw => op_eql3 _ _ (.tmp 65) _ 3 rfl _ _ rfl rfl _ (by rfl)) hH ?_
  simp only [Act.put, List.setIfInBounds_toArray, List.set_cons_zero, List.set_cons_succ]
  refine take_to 18 67 (.bool true) rfl (by kernel_rfl) (by kernel_rfl) (by kernel_rfl) (fun _ _ _ h => h) rfl (by rfl) (fun w hw => by rfl) hH ?_
  simp only [Act.put, List.setIfInBounds_toArray, List.set_cons_zero, List.set_cons_succ]
  refine take_to 19 68 (.bool true) rfl (by kernel_rfl) (by kernel_rfl) (by kernel_rfl) (fun _ _ _ h => h) rfl (by rfl) (fun w hw => by rfl) hH ?_
  simp only [Act.put, List.setIfInBounds_toArray, List.set_cons_zero, List.set_cons_succ]
  refine take_to 20 69 (.slice (some ⟨gy, 0, none⟩) 512 cy) rfl (by kernel_rfl) (by kernel_rfl) (by kernel_rfl) (fun _ _ _ h => h) rfl (by rfl) (fun w hw => by rfl) hH ?_
  simp only [Act.put, List.setIfInBounds_toArray, List.set_cons_zero, List.set_cons_succ]
  refine take_to 21 70 (.string (strOf B)) rfl (by kernel_rfl) (by kernel_rfl) (by kernel_rfl) (fun _ _ _ h => h) rfl (by rfl) (fun w hw => op_conv _ _ 37 9 (.tmp 69) rfl _ _ rfl (run_strS w _ 512 _ _ HL.out hw)) hH ?_
  simp only [Act.put, List.setIfInBounds_toArray, List.set_cons_zero, List.set_cons_succ]
  refine step_call2_to 22 71 12 rfl (by kernel_rfl) rfl (by rfl) (.const (.int .i64 1)) (.const (.int .i64 1)) _ rfl _ _ rfl rfl Try.enters12 (HPG.out _) ?_
  rintro e w9 ⟨rfl, hg9, hb9⟩
  have hH9 : SrcAt w9 gy 0 B := hH.of hb9.size (hb9.block gy hH.1)
  refine ⟨_, rfl, hH9, ?_⟩
  simp only [Act.put, List.setIfInBounds_toArray, List.set_cons_zero, List.set_cons_succ]
  refine step_to 23 72 (.string (strOf B)) w9 rfl (by kernel_rfl) rfl (by rfl) (op_conv _ _ 37 9 (.tmp 71) rfl _ _ rfl (run_str w9 _ 512 512 _ HL.out hg9)) hH9 ?_
  simp only [Act.put, List.setIfInBounds_toArray, List.set_cons_zero, List.set_cons_succ]
  refine step_to 24 73 (.bool true) w9 rfl (by kernel_rfl) rfl (by rfl) (op_eqlstrY _ _ (.tmp 70) (.tmp 72) 9 rfl _ rfl rfl) hH9 ?_
  simp only [Act.put, List.setIfInBounds_toArray, List.set_cons_zero, List.set_cons_succ]
  refine take_to 25 74 (.bool true) rfl (by kernel_rfl) (by kernel_rfl) (by kernel_rfl) (fun _ _ _ h => h) rfl (by rfl) (fun w hw => by rfl) hH9 ?_
  simp only [Act.put, List.setIfInBounds_toArray, List.set_cons_zero, List.set_cons_succ]
  refine take_to 26 75 (.bool true) rfl (by kernel_rfl) (by kernel_rfl) (by kernel_rfl) (fun _ _ _ h => h) rfl (by rfl) (fun w hw => by rfl) hH9 ?_
  simp only [Act.put, List.setIfInBounds_toArray, List.set_cons_zero, List.set_cons_succ]
  refine take_to 27 76 (.pointer (some ⟨P, 0, none⟩)) rfl (by kernel_rfl) (by kernel_rfl) (by kernel_rfl) (fun _ _ _ h => h) rfl (by rfl) (fun w hw => by rfl) hH9 ?_
  simp only [Act.put, List.setIfInBounds_toArray, List.set_cons_zero, List.set_cons_succ]
  refine step_call2_to 28 77 25 rfl (by kernel_rfl) rfl (by rfl) (.tmp 76) (.const (.int .i64 0)) _ rfl _ _ rfl rfl Try.enters25 (HH0.out w9 ((below_drewN _ _ 1).trans hb9)) ?_
  rintro e wb ⟨rfl, hwb⟩
  subst hwb
  refine ⟨_, rfl, hH9, ?_⟩
  simp only [Act.put, List.setIfInBounds_toArray, List.set_cons_zero, List.set_cons_succ]
  refine take_to 29 78 (.bool true) rfl (by kernel_rfl) (by kernel_rfl) (by kernel_rfl) (fun _ _ _ h => h) rfl (by rfl) (fun w hw => by rfl) hH9 ?_
  simp only [Act.put, List.setIfInBounds_toArray, List.set_cons_zero, List.set_cons_succ]
  refine take_to 30 79 (.bool true) rfl (by kernel_rfl) (by kernel_rfl) (by kernel_rfl) (fun _ _ _ h => h) rfl (by rfl) (fun w hw => by rfl) hH9 ?_
  simp only [Act.put, List.setIfInBounds_toArray, List.set_cons_zero, List.set_cons_succ]
  refine take_to 31 80 (.pointer (some ⟨P, 0, none⟩)) rfl (by kernel_rfl) (by kernel_rfl) (by kernel_rfl) (fun _ _ _ h => h) rfl (by rfl) (fun w hw => by rfl) hH9 ?_
  simp only [Act.put, List.setIfInBounds_toArray, List.set_cons_zero, List.set_cons_succ]
  refine step_call2_to 32 81 25 rfl (by kernel_rfl) rfl (by rfl) (.tmp 80) (.const (.int .i64 1)) _ rfl _ _ rfl rfl Try.enters25 (HH1.out _ ((below_drewN _ _ 1).trans hb9)) ?_
  rintro e wc ⟨rfl, hwc⟩
  subst hwc
  refine ⟨_, rfl, hH9, ?_⟩
  simp only [Act.put, List.setIfInBounds_toArray, List.set_cons_zero, List.set_cons_succ]
  refine take_to 33 82 (.bool true) rfl (by kernel_rfl) (by kernel_rfl) (by kernel_rfl) (fun _ _ _ h => h) rfl (by rfl) (fun w hw => by rfl) hH9 ?_
  simp only [Act.put, List.setIfInBounds_toArray, List.set_cons_zero, List.set_cons_succ]
  refine take_to 34 83 (.bool true) rfl (by kernel_rfl) (by kernel_rfl) (by kernel_rfl) (fun _ _ _ h => h) rfl (by rfl) (fun w hw => by rfl) hH9 ?_
  simp only [Act.put, List.setIfInBounds_toArray, List.set_cons_zero, List.set_cons_succ]
  refine take_to 35 0 (.bool true) rfl (by kernel_rfl) (by kernel_rfl) (by kernel_rfl) (fun _ _ _ h => h) rfl (by rfl) (fun w hw => by rfl) hH9 ?_
  simp only [Act.put, List.setIfInBounds_toArray, List.set_cons_zero, List.set_cons_succ]
  refine wpAnyH_done (by kernel_rfl) ?_ _
  go_wp2
  go_ret
  exact ⟨rfl, HB8.out.trans ((below_drewN _ _ 1).trans (hb9.mono HB8.out.size))⟩
end Go.Proofs.Ytifoafiidplpiaa
