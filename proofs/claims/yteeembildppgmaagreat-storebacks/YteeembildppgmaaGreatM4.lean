/- A part of it: FFetch FCar FFile. -/
import Derived.Test.YteeembildppgmaaGreatM3
namespace Go.Proofs.YteeembildppgmaaGreat
open Go.RowKit
set_option linter.unusedVariables false
set_option linter.unusedSimpArgs false
theorem more_L (D : Dv) : ∀ k, (D.more k).L = D.L
 | 0 => rfl
 | k + 1 => more_L D k
theorem more_W (D : Dv) : ∀ k, (D.more k).W = D.W
 | 0 => rfl
 | k + 1 => more_W D k
theorem more_dead (D : Dv) : ∀ k, (D.more k).dead = D.dead
 | 0 => rfl
 | k + 1 => more_dead D k
theorem more_fuse (D : Dv) : ∀ k, (D.more k).fuse = D.fuse
 | 0 => rfl
 | k + 1 => more_fuse D k
theorem more_newest (D : Dv) (k i : Nat) : (D.more k).newest i = D.newest i := by
 unfold Dv.newest
 rw [more_L, more_W]
theorem length_four {D : Dv} (h : D.wf) (i : Nat) (hi : i + 4 ≤ D.L.length) : (D.four i).length = 512 := by
 simp [Dv.four, length_newest D h i (by omega), length_newest D h (i + 1) (by omega), length_newest D h (i + 2) (by omega), length_newest D h (i + 3) (by omega)]
theorem four_next {D : Dv} (h : D.wf) (i k : Nat) (hi : i + 4 ≤ D.L.length) (hk : k < 4) : (D.four i).take (128 * (k + 1)) = (D.four i).take (128 * k) ++ D.newest (i + k) := by
 have l0 := length_newest D h i (by omega)
 have l1 := length_newest D h (i + 1) (by omega)
 have l2 := length_newest D h (i + 2) (by omega)
 have l3 := length_newest D h (i + 3) (by omega)
 unfold Dv.four
 have : k = 0 ∨ k = 1 ∨ k = 2 ∨ k = 3 := by omega
 rcases this with rfl | rfl | rfl | rfl
 · simp [List.take_append, l0, List.take_of_length_le]
 · simp [List.take_append, l0, l1, List.take_of_length_le]
 · simp [List.take_append, l0, l1, l2, List.take_of_length_le]
 · simp [List.take_append, l0, l1, l2, l3, List.take_of_length_le]
theorem page_lay (A : List UInt8) (s : List UInt8) (k : Nat) (hA : A.length = 128 * k) (hs : s.length = 128) (hk : k < 4) :
 (secCells (A ++ zerosN (512 - 128 * k))).take (128 * k) ++ (secCells s ++ (secCells (A ++ zerosN (512 - 128 * k))).drop (128 * k + (secCells s).length)) = secCells ((A ++ s) ++ zerosN (512 - 128 * (k + 1))) := by
 have e : ∀ a b : List UInt8, secCells (a ++ b) = secCells a ++ secCells b := fun a b => by simp [secCells]
 have lA : (secCells A).length = 128 * k := by rw [length_secCells, hA]
 rw [e, List.take_append_of_le_length (by omega), List.take_of_length_le (by omega), length_secCells, hs, List.drop_append, lA, List.drop_of_length_le (by omega), e, e, List.nil_append, List.append_assoc]
 rw [show 128 * k + 128 - 128 * k = 128 by omega]
 have : (secCells (zerosN (512 - 128 * k))).drop 128 = secCells (zerosN (512 - 128 * (k + 1))) := by
  unfold secCells zerosN
  rw [← List.map_drop, List.drop_replicate, show 512 - 128 * k - 128 = 512 - 128 * (k + 1) by omega]
 rw [this]

set_option maxHeartbeats 1000000 in
set_option maxRecDepth 100000 in
theorem fetch_ok {w : World} {q p fr n : Nat} {failed : Bool} {fp : List Nat} {D : Dv} (i : Nat) (hf : FileAt w q p fr n failed) (hD : DevAt w p fp D) (hq : q ∉ fp) (hd : D.dead = false) (hW : D.W.length ≤ 900000) (hi : i + 4 ≤ D.L.length) :
 Calls Tryz.prog 121 #[.pointer (some ⟨q, 0, none⟩), .int .i64 (i : Int)] w fun e w' => e = .returned (.tuple #[.slice (some ⟨w.heap.size, 0, none⟩) 512 512, .int .i64 0]) ∧
  w'.heap[w.heap.size]? = some (.cells (secCells (D.four i)).toArray 5 (0, 0)) ∧ DevAt w' p fp (D.more 4) ∧ Off fp w w' := by
 have hwf : D.wf := let ⟨_, _, _, x⟩ := hD; x.wf
 have hmax := hwf.max
 obtain ⟨w0, hw0⟩ : ∃ w0, w.alloc (.cells (secCells (zerosN 512)).toArray 5) = w0 := ⟨_, rfl⟩
 have hmk : (Instr.makeSlice 36 (.int .i64 512) (.int .i64 512)).run Tryz.prog w = .ok (.slice (some ⟨w.heap.size, 0, none⟩) 512 512) w0 := by rw [← hw0]; exact makeN 512 (by omega) w
 have hb0 : Below w.heap.size w w0 := by rw [← hw0]; exact (Below.refl _ _).alloc (Nat.le_refl _) _
 have hg0 : w0.heap[w.heap.size]? = some (.cells (secCells (zerosN 512)).toArray 5 (0, 0)) := by rw [← hw0]; exact heap_alloc_new w _
 have hD0 := hD.below hb0
 have hO0 : Off fp w w0 := Off.of_below hb0 fp
 have hgn : w.heap.size ∉ fp := fun hm => by
  obtain ⟨_, _, _, x⟩ := hD
  have := x.lim _ hm
  omega
 have HF := hide hf
 have HL4 := hide (length_four hwf i hi)
 have HNX := hide (fun k => four_next hwf i k hi)
 have HLN := hide (fun k (hk : k < 4) => length_newest D hwf (i + k) (by omega))
 have HMW : Hid (∀ k, (D.more k).W.length ≤ 900000) := fun k => by rw [more_W]; exact hW
 clear hw0 hD hf hb0 hwf hW
 obtain ⟨g, hge⟩ : ∃ g, w.heap.size = g := ⟨_, rfl⟩
 rw [hge] at hmk hg0 hgn ⊢
 have HGE : Hid (w.heap.size ≤ g) := Nat.le_of_eq hge
 clear hge
 go_enter Tryz.func121, Tryz.ntmps121
 go_wp2
 go_loopw [11] (fun j wr => ∃ k : Nat, k ≤ 4 ∧ j = .int .i64 k ∧ wr.heap[g]? = some (.cells (secCells ((D.four i).take (128 * k) ++ zerosN (512 - 128 * k))).toArray 5 (0, 0)) ∧ DevAt wr p fp (D.more k) ∧ Off fp w wr) (fun j _ => 5 - (intOf j).toNat)
 case atStart => exact ⟨0, by omega, rfl, by simpa using hg0, hD0, hO0⟩
 case round =>
  clear hD0 hO0 hg0
  obtain ⟨k, hk, rfl, hg, hD, hO⟩ := hrel
  have HO := hide hO
  have k0 := (HF.out.off hO hq).c0
  clear hO
  by_cases hlt : k < 4
  · have HRD := hide (read_ok p (i + k) wr fp (D.more k) hD (by rw [more_dead]; exact hd) (by rw [more_L]; omega) (by have := HMW.out k; omega))
    rw [more_newest] at HRD
    have hw1 : IntKind.i64.wrap ((i : Int) + (k : Int)) = (i : Int) + (k : Int) := by rw [IntKind.wrap_i64]; omega
    rw [show ((i + k : Nat) : Int) = (i : Int) + (k : Int) by omega] at HRD
    have HG := hide hg
    have hcut : ∀ u, (Instr.sliceAt 36 (.slice (some ⟨g, 0, none⟩) 512 512) (some (.int .i64 ((k : Int) * 128))) none none).run Tryz.prog u = .ok (.slice (some ⟨g, 128 * k, none⟩) (512 - 128 * k) (512 - 128 * k)) u := fun u => by
     have := run_cut_from u (some ⟨g, 0, none⟩) 512 512 (128 * k) (by omega)
     rw [show ((128 * k : Nat) : Int) = (k : Int) * 128 by omega] at this
     rw [this]
     unfold cutAt
     rw [if_neg (by omega)]
     simp [Addr.add_mid]
    have HCUR : Hid ((secCells ((D.four i).take (128 * k) ++ zerosN (512 - 128 * k))).toArray.size = 512) := by
     show _ = _
     rw [List.size_toArray, length_secCells, List.length_append, List.length_take, HL4.out, length_zerosN]
     omega
    have HN : Hid ((secCells (D.newest (i + k))).length = 128) := by show _ = _; rw [length_secCells]; exact HLN.out k hlt
    have HMIN : Hid ((secCells (D.newest (i + k))).length = Nat.min 128 (512 - 128 * k)) := by
     show _ = _
     rw [HN.out]; exact (Nat.min_eq_left (by omega)).symm
    have HGL : Hid (g < wr.heap.size) := (Array.getElem?_eq_some_iff.1 hg).1
    clear hD hg
    go_wp2_with (first | (go_at_call 18; refine HRD.out.mono ?_; rintro e w4 ⟨s, rfl, hs1, hs2, hD4, hO4⟩) | (refine wpList_copy_own rfl _ _ 36 36 rfl 5 Tryz.underlying36 (by kernel_rfl) g (128 * k) (512 - 128 * k) (512 - 128 * k) ⟨s, 0, none⟩ 128 128 rfl rfl _ 5 ((hO4.block g HGL.out hgn).trans HG.out) (secCells (D.newest (i + k))) HMIN.out (src_of_block hs2) (by rw [HCUR.out, HN.out]; omega) (one_secCells _) ?_))
    have hgw := (hO4.block g HGL.out hgn).trans HG.out
    have hpl := page_lay ((D.four i).take (128 * k)) (D.newest (i + k)) k (by rw [List.length_take, HL4.out]; omega) (HLN.out k hlt) hlt
    rw [← HNX.out k hlt] at hpl
    have HPL := hide hpl
    clear hpl
    go_roundw
    case rel =>
     refine ⟨k + 1, by omega, by go_num, ?_, ?_, ?_⟩
     · rw [setRow_heap _ _ _ _ _ _ hgw]
       congr 2
       exact congrArg List.toArray HPL.out
     · exact hD4.apart ((Off.refl [g] w4).setRow g _ (.inl (by simp))) (fun x hx hm => hgn (by simp at hm; exact hm ▸ hx))
     · exact (HO.out.trans hO4 (fun x hx => .inl hx)).setRow g _ (.inr HGE.out)
    case measure => simp [intOf]; omega
  · have hk4 : k = 4 := by omega
    subst hk4
    go_wp2
    go_ret2
    refine ⟨rfl, ?_, hD, HO.out⟩
    rw [hg, List.take_of_length_le (by rw [HL4.out]; omega)]
    simp [zerosN]
end Go.Proofs.YteeembildppgmaaGreat
namespace Go.Proofs.YteeembildppgmaaGreat
open Go.RowKit
set_option linter.unusedVariables false
set_option linter.unusedSimpArgs false
def Exit.jumps (J : Nat → Act → World → Prop) (Q : Exit → Act → World → Prop) : Exit → Act → World → Prop
 | .goto l, a, w => J l a w
 | e, a, w => Q e a w
theorem Exit.jumps_ret {J : Nat → Act → World → Prop} {Q : Exit → Act → World → Prop} {a : Act} {w : World} : Exit.jumps J Q .ret a w = Q .ret a w := rfl
def fwd (P : Program) (c : Code) (Q : Exit → Act → World → Prop) : Nat → Nat → Act → World → Prop
 | 0, _, _, _ => False
 | n + 1, l, a, w => ∃ rest, findLabel c l = some rest ∧ rest.wp P (Exit.jumps (fwd P c Q n) Q) a w
theorem wp_scope_fwd {P : Program} {Q : Exit → Act → World → Prop} {a : Act} {w : World} {c : Code} (n : Nat) (first : c.wp P (Exit.jumps (fwd P c Q n) Q) a w) : (Code.scope c).wp P Q a w := by
 intro b k cs
 have key : ∀ n l a w, fwd P c Q n l a w → ∃ rest, findLabel c l = some rest ∧ ∃ e a' w', Q e a' w' ∧ Arrives P (lone (b.at a (.code rest :: .inScope c :: k)) cs w) b k cs e a' w' := by
  intro n
  induction n with
  | zero => intro l a w h; exact h.elim
  | succ n ih =>
    rintro l a w ⟨rest, hf, hw⟩
    refine ⟨rest, hf, ?_⟩
    obtain ⟨e, a₁, w₁, hq, harr⟩ := hw b (.inScope c :: k) cs
    cases e with
    | normal => exact ⟨.normal, a₁, w₁, hq, Steps.trans harr (.one step_inScope)⟩
    | exit id => exact ⟨.exit id, a₁, w₁, hq, fun k' hk => harr k' (by simp [exitTo, hk])⟩
    | goto l' =>
      obtain ⟨rest', hf', e₂, a₂, w₂, hq₂, harr₂⟩ := ih l' a₁ w₁ hq
      have hg : gotoIn l' (.inScope c :: k) = some (.code rest' :: .inScope c :: k) := by simp [gotoIn, hf']
      exact ⟨e₂, a₂, w₂, hq₂, .of_steps (harr _ hg) harr₂⟩
    | ret => exact ⟨_, a₁, w₁, hq, harr⟩
    | panic ch => exact ⟨_, a₁, w₁, hq, harr⟩
    | outgrown => exact ⟨_, a₁, w₁, hq, harr⟩
 obtain ⟨e, a₁, w₁, hq, harr⟩ := first b (.inScope c :: k) cs
 cases e with
 | normal => exact ⟨.normal, a₁, w₁, hq, .head step_scope (Steps.trans harr (.one step_inScope))⟩
 | exit id => exact ⟨.exit id, a₁, w₁, hq, fun k' hk => .head step_scope (harr k' (by simp [exitTo, hk]))⟩
 | goto l' =>
   obtain ⟨rest', hf', e₂, a₂, w₂, hq₂, harr₂⟩ := key n l' a₁ w₁ hq
   have hg : gotoIn l' (.inScope c :: k) = some (.code rest' :: .inScope c :: k) := by simp [gotoIn, hf']
   exact ⟨e₂, a₂, w₂, hq₂, .of_steps (.head step_scope (harr _ hg)) harr₂⟩
 | ret => exact ⟨_, a₁, w₁, hq, .of_steps (.one step_scope) harr⟩
 | panic ch => exact ⟨_, a₁, w₁, hq, .of_steps (.one step_scope) harr⟩
 | outgrown => exact ⟨_, a₁, w₁, hq, .of_steps (.one step_scope) harr⟩

section
variable {w : World} {q p fr n : Nat} {failed : Bool}
theorem pages_any (h : FileAt w q p fr n failed) : Calls Tryz.prog 123 #[.pointer (some ⟨q, 0, none⟩)] w fun e w' => e = .returned (.int .i64 (n : Int)) ∧ w' = w := by
 have k2 := h.c2
 go_enter Tryz.func123, Tryz.ntmps123
 go_wp2
 go_ret
 exact ⟨rfl, rfl⟩
theorem journal_any (h : FileAt w q p fr n failed) (hfr : fr ≤ 1099511627776) : Calls Tryz.prog 134 #[.pointer (some ⟨q, 0, none⟩)] w fun e w' => e = .returned (.int .i64 ((fr + 1 : Nat) : Int)) ∧ w' = w := by
 have k1 := h.c1
 go_enter Tryz.func134, Tryz.ntmps134
 go_wp2
 go_ret
 exact ⟨by congr 1, rfl⟩
theorem has_in (i : Nat) (h : FileAt w q p fr n failed) (hi : i < n) : Calls Tryz.prog 120 #[.pointer (some ⟨q, 0, none⟩), .int .i64 (i : Int)] w fun e w' => e = .returned (.bool true) ∧ w' = w := by
 have k2 := h.c2
 go_enter Tryz.func120, Tryz.ntmps120
 go_wp2
 go_ret
 exact ⟨rfl, rfl⟩
theorem place_any (i : Nat) (h : FileAt w q p fr n failed) (hfr : fr ≤ 1099511627776) (hi : i ≤ 1099511627776) : Calls Tryz.prog 122 #[.pointer (some ⟨q, 0, none⟩), .int .i64 (i : Int)] w fun e w' => e = .returned (.int .i64 ((fr + 5 + 4 * i : Nat) : Int)) ∧ w' = w := by
 have k1 := h.c1
 have hw1 : IntKind.i64.wrap ((fr : Int) + 5) = (fr : Int) + 5 := by rw [IntKind.wrap_i64]; omega
 have hw2 : IntKind.i64.wrap ((i : Int) * 4) = (i : Int) * 4 := by rw [IntKind.wrap_i64]; omega
 have hw3 : IntKind.i64.wrap ((fr : Int) + 5 + (i : Int) * 4) = (fr : Int) + 5 + (i : Int) * 4 := by rw [IntKind.wrap_i64]; omega
 go_enter Tryz.func122, Tryz.ntmps122
 go_wp2
 go_ret
 refine ⟨?_, rfl⟩
 show Ending.returned (Value.int .i64 ((fr : Int) + 5 + (i : Int) * 4)) = _
 congr 2
 omega
end
def onOk (x : Int × Dv) (f : Dv → Int × Dv) : Int × Dv := if x.1 ≠ 0 then x else f x.2
theorem onOk_ok {x : Int} {E : Dv} {f : Dv → Int × Dv} (h : x = 0) : onOk (x, E) f = f E := by rw [onOk, if_neg (by simpa using h)]
theorem onOk_no {x : Int} {E : Dv} {f : Dv → Int × Dv} (h : x ≠ 0) : onOk (x, E) f = (x, E) := by rw [onOk, if_pos h]
def Dv.carP (D : Dv) (fr i : Nat) (b : List UInt8) : Int × Dv := onOk (D.lay (fr + 5 + 4 * i) (secsOf 4 b)) fun E => E.lay fr [headOf 0]
def Dv.carH (D : Dv) (fr i : Nat) (b : List UInt8) : Int × Dv := onOk (D.lay fr [headOf (i + 1)]) fun E => E.carP fr i b
def Dv.carJ (D : Dv) (fr i : Nat) (b : List UInt8) : Int × Dv := onOk (D.lay (fr + 1) (secsOf 4 b)) fun E => E.carH fr i b

theorem lay_W : ∀ (ss : List (List UInt8)) (D : Dv) (i : Nat), (D.lay i ss).2.W.length ≤ D.W.length + ss.length
 | [], D, i => by
   unfold Dv.lay Dv.sync
   split
   · simp
   · split
     · simp
     · simp [Dv.synced]
 | s :: r, D, i => by
   unfold Dv.lay
   have h1 := write_W D i s
   have h2 := lay_W r (D.write i s).2 (i + 1)
   split
   · rw [List.length_cons]; omega
   · rw [List.length_cons]; omega
theorem secs_one (v : Nat) : secsOf 1 (headOf v) = [headOf v] := by
 rw [secsOf, secsOf, List.take_of_length_le (by rw [length_headOf]; omega)]
theorem length_secsOf : ∀ (n : Nat) (b : List UInt8), (secsOf n b).length = n
 | 0, _ => rfl
 | n + 1, b => by rw [secsOf, List.length_cons, length_secsOf n]

theorem layHead_any {w : World} {q p fr n : Nat} {failed : Bool} {fp : List Nat} {D : Dv} (g v : Nat) (hf : FileAt w q p fr n failed) (hD : DevAt w p fp D) (hq : q ∉ fp)
 (hs : w.heap[g]? = some (.cells (secCells (headOf v)).toArray 5 (0, 0))) (hg : g ∉ fp) (hW : D.W.length ≤ 900000) (hi : fr ≤ 1099511627776) :
 Calls Tryz.prog 154 #[.pointer (some ⟨q, 0, none⟩), .int .i64 (fr : Int), .slice (some ⟨g, 0, none⟩) 128 128] w fun e w' => e = .returned (.int .i64 (D.lay fr [headOf v]).1) ∧
  ∃ fp', DevAt w' p fp' (D.lay fr [headOf v]).2 ∧ Off fp w w' ∧ ∀ k ∈ fp', k ∈ fp ∨ w.heap.size ≤ k := by
 have := lay_any (m := 1) fr g 128 (headOf v) (length_headOf v) (by omega) (by omega) hf hD hq (SrcAt.block hs) hg hW hi
 rw [secs_one] at this
 exact this
theorem layPage_any {w : World} {q p fr n : Nat} {failed : Bool} {fp : List Nat} {D : Dv} (i g c : Nat) (bs : List UInt8) (hl : bs.length = 512) (hc : 512 ≤ c) (hf : FileAt w q p fr n failed) (hD : DevAt w p fp D) (hq : q ∉ fp)
 (hs : SrcAt w g 0 bs) (hg : g ∉ fp) (hW : D.W.length ≤ 900000) (hi : i ≤ 1099511627776) :
 Calls Tryz.prog 154 #[.pointer (some ⟨q, 0, none⟩), .int .i64 (i : Int), .slice (some ⟨g, 0, none⟩) 512 c] w fun e w' => e = .returned (.int .i64 (D.lay i (secsOf 4 bs)).1) ∧
  ∃ fp', DevAt w' p fp' (D.lay i (secsOf 4 bs)).2 ∧ Off fp w w' ∧ ∀ k ∈ fp', k ∈ fp ∨ w.heap.size ≤ k :=
 lay_any (m := 4) i g c bs hl (by omega) hc hf hD hq hs hg hW hi

structure CarAt (w wr : World) (q p fr n : Nat) (failed : Bool) (g : Nat) (bs : List UInt8) (fp fq : List Nat) (E : Dv) : Prop where
 fl : FileAt wr q p fr n failed
 dev : DevAt wr p fq E
 src : SrcAt wr g 0 bs
 off : Off fp w wr
 fresh : ∀ k ∈ fq, k ∈ fp ∨ w.heap.size ≤ k
 nq : q ∉ fq
 ng : g ∉ fq
theorem CarAt.next {w wr w' : World} {q p fr n : Nat} {failed : Bool} {g : Nat} {bs : List UInt8} {fp fq fq' : List Nat} {E E' : Dv} (h : CarAt w wr q p fr n failed g bs fp fq E) (hD : DevAt w' p fq' E') (hO : Off fq wr w') (hF : ∀ k ∈ fq', k ∈ fq ∨ wr.heap.size ≤ k) : CarAt w w' q p fr n failed g bs fp fq' E' :=
 ⟨h.fl.off hO h.nq, hD, h.src.off hO h.ng, h.off.trans hO (fun k hk => h.fresh k hk), fresh_off h.fresh h.off hF, fresh_not h.nq h.fl.lt hF, fresh_not h.ng h.src.1 hF⟩
theorem CarAt.belowW {w wr w' : World} {q p fr n : Nat} {failed : Bool} {g : Nat} {bs : List UInt8} {fp fq : List Nat} {E : Dv} (h : CarAt w wr q p fr n failed g bs fp fq E) (hb : Below wr.heap.size wr w') : CarAt w w' q p fr n failed g bs fp fq E :=
 h.next (h.dev.below hb) (Off.of_below hb fq) (fun k hk => .inl hk)

set_option maxHeartbeats 2000000 in
set_option maxRecDepth 100000 in
theorem carry_page {w : World} {q p fr n : Nat} {failed : Bool} {fp : List Nat} {D : Dv} (i g c : Nat) (bs : List UInt8) (hl : bs.length = 512) (hc : 512 ≤ c) (h : CarAt w w q p fr n failed g bs fp fp D) (hW : D.W.length ≤ 800000) (hfr : fr ≤ 549755813888) (hi : i ≤ 34359738368) :
 Calls Tryz.prog 135 #[.pointer (some ⟨q, 0, none⟩), .int .i64 1, .int .i64 (i : Int), .slice (some ⟨g, 0, none⟩) 512 c] w fun e w' => e = .returned (.int .i64 (D.carP fr i bs).1) ∧
  ∃ fp', CarAt w w' q p fr n failed g bs fp fp' (D.carP fr i bs).2 := by
 obtain ⟨R, hR⟩ : ∃ R, D.carP fr i bs = R := ⟨_, rfl⟩
 rw [hR]
 have HR := hide hR
 clear hR
 have HC0 := hide h
 clear h
 have HPL := hide (place_any i HC0.out.fl (by omega) (by omega))
 have HLA := hide (layPage_any (fr + 5 + 4 * i) g c bs hl hc HC0.out.fl HC0.out.dev HC0.out.nq HC0.out.src HC0.out.ng (by omega) (by omega))
 have hLW := lay_W (secsOf 4 bs) D (fr + 5 + 4 * i)
 rw [length_secsOf] at hLW
 unfold Dv.carP at HR
 obtain ⟨⟨x, E⟩, hX⟩ : ∃ X, D.lay (fr + 5 + 4 * i) (secsOf 4 bs) = X := ⟨_, rfl⟩
 rw [hX] at HR HLA hLW
 have hLW : E.W.length ≤ D.W.length + 4 := hLW
 clear hX
 by_cases hx : x = 0
 · subst hx
   rw [onOk_ok rfl] at HR
   go_enter Tryz.func135, Tryz.ntmps135
   go_wp2
   refine wp_scope_fwd 4 ?_
   go_wp2
   go_step3
   refine ⟨_, rfl, ?_⟩
   go_wp2_with (first | (go_at_call 122; refine HPL.out.mono ?_; rintro e w' ⟨rfl, hw⟩; have hw := hw.symm; subst hw) | (go_at_call 154; refine HLA.out.mono ?_; rintro e w4 ⟨rfl, fp4, hD4, hO4, hF4⟩))
   go_step3
   refine ⟨_, rfl, ?_⟩
   have HC4 := hide (HC0.out.next hD4 hO4 hF4)
   clear hD4 hO4 hF4 HLA HPL
   have k1 := HC4.out.fl.c1
   have HHD := hide (fun d => headOf_any 0 (w4.drewN d) (by omega))
   have HK1 := hide (fun (W : World) (hb : Below w4.heap.size w4 W) => (HC4.out.belowW hb).fl.c1)
   have HLY := hide (fun (W : World) (hb : Below w4.heap.size w4 W) (hh : W.heap[w4.heap.size]? = some (.cells (secCells (headOf 0)).toArray 5 (0, 0))) =>
    layHead_any w4.heap.size 0 (HC4.out.belowW hb).fl (HC4.out.belowW hb).dev HC4.out.nq hh (fun hm => by obtain ⟨_, _, _, x⟩ := HC4.out.dev; have := x.lim _ hm; omega) (by omega) (by omega))
   go_wp2
   go_region_held (fun w' => w'.cell? ⟨q, 1, none⟩ = some (.int .i64 (fr : Int))) (simp [*])
    (first
      | (go_at_call 155; refine (HHD.out 1).mono ?_; rintro e w5 ⟨rfl, hh5, hb5'⟩; have hb5 : Below w4.heap.size w4 w5 := ⟨hb5'.os, hb5'.tape, hb5'.output, hb5'.size, hb5'.block⟩; have k15 := HK1.out w5 hb5)
      | (go_at_call 154; refine (HLY.out w5 hb5 hh5).mono ?_; rintro e w6 ⟨rfl, fp6, hD6, hO6, hF6⟩; have hC6 := (HC4.out.belowW hb5).next hD6 hO6 hF6; have k16 := hC6.fl.c1))
   all_goals rw [HR.out] at hC6
   all_goals go_wp2
   all_goals rw [Exit.jumps_ret]
   all_goals go_ret
   all_goals rw [HR.out]
   all_goals exact ⟨rfl, _, hC6⟩
 · rw [onOk_no hx] at HR
   have hxb : (x == 0) = false := by simpa using hx
   go_enter Tryz.func135, Tryz.ntmps135
   go_wp2
   refine wp_scope_fwd 4 ?_
   go_wp2
   go_step3
   refine ⟨_, rfl, ?_⟩
   go_wp2_with (first | (go_at_call 122; refine HPL.out.mono ?_; rintro e w' ⟨rfl, hw⟩; have hw := hw.symm; subst hw) | (go_at_call 154; refine HLA.out.mono ?_; rintro e w4 ⟨rfl, fp4, hD4, hO4, hF4⟩))
   rw [Exit.jumps_ret]
   go_ret
   rw [← HR.out]
   exact ⟨rfl, _, HC0.out.next hD4 hO4 hF4⟩
set_option maxHeartbeats 2000000 in
set_option maxRecDepth 100000 in
theorem carry_journal {w : World} {q p fr n : Nat} {failed : Bool} {fp : List Nat} {D : Dv} (i g c : Nat) (bs : List UInt8) (hl : bs.length = 512) (hc : 512 ≤ c) (h : CarAt w w q p fr n failed g bs fp fp D) (hW : D.W.length ≤ 800000) (hfr : fr ≤ 549755813888) (hi : i ≤ 34359738368) :
 Calls Tryz.prog 135 #[.pointer (some ⟨q, 0, none⟩), .int .i64 0, .int .i64 (i : Int), .slice (some ⟨g, 0, none⟩) 512 c] w fun e w' => e = .returned (.int .i64 (D.carJ fr i bs).1) ∧
  ∃ fp', CarAt w w' q p fr n failed g bs fp fp' (D.carJ fr i bs).2 := by
 obtain ⟨R, hR⟩ : ∃ R, D.carJ fr i bs = R := ⟨_, rfl⟩
 rw [hR]
 have HR := hide hR
 clear hR
 have HC0 := hide h
 have HJO := hide (journal_any h.fl (by omega))
 have HLA := hide (layPage_any (fr + 1) g c bs hl hc h.fl h.dev h.nq h.src h.ng (by omega) (by omega))
 have hLW := lay_W (secsOf 4 bs) D (fr + 1)
 rw [length_secsOf] at hLW
 unfold Dv.carJ at HR
 obtain ⟨⟨x, E⟩, hX⟩ : ∃ X, D.lay (fr + 1) (secsOf 4 bs) = X := ⟨_, rfl⟩
 rw [hX] at HR HLA hLW
 have hLW : E.W.length ≤ D.W.length + 4 := hLW
 clear hX h
 by_cases hx : x = 0
 · subst hx
   rw [onOk_ok rfl] at HR
   go_enter Tryz.func135, Tryz.ntmps135
   go_wp2
   refine wp_scope_fwd 4 ?_
   go_wp2
   go_step3
   refine ⟨_, rfl, ?_⟩
   go_wp2_with (first | (go_at_call 134; refine HJO.out.mono ?_; rintro e w' ⟨rfl, hw⟩; have hw := hw.symm; subst hw) | (go_at_call 154; refine HLA.out.mono ?_; rintro e w2 ⟨rfl, fp2, hD2, hO2, hF2⟩))
   go_step3
   refine ⟨_, rfl, ?_⟩
   have HC2 := hide (HC0.out.next hD2 hO2 hF2)
   clear hD2 hO2 hF2 HLA HJO
   have k1 := HC2.out.fl.c1
   have hwu1 : IntKind.u64.wrap (i : Int) = (i : Int) := by rw [wrapU]; omega
   have hwu2 : IntKind.u64.wrap ((i : Int) + 1) = (i : Int) + 1 := by rw [wrapU]; omega
   have HHD := hide (fun d => headOf_any (i + 1) (w2.drewN d) (by omega))
   rw [show ((i + 1 : Nat) : Int) = (i : Int) + 1 by omega] at HHD
   have HK1 := hide (fun (W : World) (hb : Below w2.heap.size w2 W) => (HC2.out.belowW hb).fl.c1)
   have HLY := hide (fun (W : World) (hb : Below w2.heap.size w2 W) (hh : W.heap[w2.heap.size]? = some (.cells (secCells (headOf (i + 1))).toArray 5 (0, 0))) =>
    layHead_any w2.heap.size (i + 1) (HC2.out.belowW hb).fl (HC2.out.belowW hb).dev HC2.out.nq hh (fun hm => by obtain ⟨_, _, _, x⟩ := HC2.out.dev; have := x.lim _ hm; omega) (by omega) (by omega))
   have hLW2 := lay_W [headOf (i + 1)] E fr
   unfold Dv.carH at HR
   obtain ⟨⟨y, E2⟩, hY⟩ : ∃ Y, E.lay fr [headOf (i + 1)] = Y := ⟨_, rfl⟩
   rw [hY] at HR HLY hLW2
   have hLW2 : E2.W.length ≤ E.W.length + 1 := hLW2
   clear hY
   by_cases hy : y = 0
   · subst hy
     rw [onOk_ok rfl] at HR
     go_wp2
     go_region_held (fun w' => w'.cell? ⟨q, 1, none⟩ = some (.int .i64 (fr : Int))) (simp [*])
      (first
        | (go_at_call 155; refine (HHD.out 1).mono ?_; rintro e w5 ⟨rfl, hh5, hb5'⟩; have hb5 : Below w2.heap.size w2 w5 := ⟨hb5'.os, hb5'.tape, hb5'.output, hb5'.size, hb5'.block⟩; have k15 := HK1.out w5 hb5)
        | (go_at_call 154; refine (HLY.out w5 hb5 hh5).mono ?_; rintro e w6 ⟨rfl, fp6, hD6, hO6, hF6⟩; have hC6 := (HC2.out.belowW hb5).next hD6 hO6 hF6; have k16 := hC6.fl.c1))
     all_goals
      have HC6 := hide hC6
      clear hC6 hD6 hO6 hF6 hb5 hb5' hh5 HHD HK1 HLY k1 k15 hwu1 hwu2
      have hLW1 := hLW
      clear hLW
      go_wp2
      go_step3
      refine ⟨_, rfl, ?_⟩
      have HPL := hide (place_any i HC6.out.fl (by omega) (by omega))
      have HLA := hide (layPage_any (fr + 5 + 4 * i) g c bs hl hc HC6.out.fl HC6.out.dev HC6.out.nq HC6.out.src HC6.out.ng (by omega) (by omega))
      have hLW := lay_W (secsOf 4 bs) E2 (fr + 5 + 4 * i)
      rw [length_secsOf] at hLW
      unfold Dv.carP at HR
      obtain ⟨⟨x, E3⟩, hX⟩ : ∃ X, E2.lay (fr + 5 + 4 * i) (secsOf 4 bs) = X := ⟨_, rfl⟩
      rw [hX] at HR HLA hLW
      have hLW : E3.W.length ≤ E2.W.length + 4 := hLW
      clear hX
      by_cases hx : x = 0
      · subst hx
        rw [onOk_ok rfl] at HR
        go_wp2_with (first | (go_at_call 122; refine HPL.out.mono ?_; rintro e w' ⟨rfl, hw⟩; have hw := hw.symm; subst hw) | (go_at_call 154; refine HLA.out.mono ?_; rintro e w4 ⟨rfl, fp4, hD4, hO4, hF4⟩))
        go_step3
        refine ⟨_, rfl, ?_⟩
        have HC4 := hide (HC6.out.next hD4 hO4 hF4)
        clear hD4 hO4 hF4 HLA HPL
        have k1 := HC4.out.fl.c1
        have HHD := hide (fun d => headOf_any 0 (w4.drewN d) (by omega))
        have HK1 := hide (fun (W : World) (hb : Below w4.heap.size w4 W) => (HC4.out.belowW hb).fl.c1)
        have HLY := hide (fun (W : World) (hb : Below w4.heap.size w4 W) (hh : W.heap[w4.heap.size]? = some (.cells (secCells (headOf 0)).toArray 5 (0, 0))) =>
         layHead_any w4.heap.size 0 (HC4.out.belowW hb).fl (HC4.out.belowW hb).dev HC4.out.nq hh (fun hm => by obtain ⟨_, _, _, x⟩ := HC4.out.dev; have := x.lim _ hm; omega) (by omega) (by omega))
        go_wp2
        go_region_held (fun w' => w'.cell? ⟨q, 1, none⟩ = some (.int .i64 (fr : Int))) (simp [*])
         (first
           | (go_at_call 155; refine (HHD.out 1).mono ?_; rintro e w7 ⟨rfl, hh7, hb7'⟩; have hb7 : Below w4.heap.size w4 w7 := ⟨hb7'.os, hb7'.tape, hb7'.output, hb7'.size, hb7'.block⟩; have k17 := HK1.out w7 hb7)
           | (go_at_call 154; refine (HLY.out w7 hb7 hh7).mono ?_; rintro e w8 ⟨rfl, fp8, hD8, hO8, hF8⟩; have hC8 := (HC4.out.belowW hb7).next hD8 hO8 hF8; have k16 := hC8.fl.c1))
        all_goals rw [HR.out] at hC8
        all_goals go_wp2
        all_goals rw [Exit.jumps_ret]
        all_goals go_ret
        all_goals rw [HR.out]
        all_goals exact ⟨rfl, _, hC8⟩
      · rw [onOk_no hx] at HR
        have hxb : (x == 0) = false := by simpa using hx
        go_wp2_with (first | (go_at_call 122; refine HPL.out.mono ?_; rintro e w' ⟨rfl, hw⟩; have hw := hw.symm; subst hw) | (go_at_call 154; refine HLA.out.mono ?_; rintro e w4 ⟨rfl, fp4, hD4, hO4, hF4⟩))
        rw [Exit.jumps_ret]
        go_ret
        rw [← HR.out]
        exact ⟨rfl, _, HC6.out.next hD4 hO4 hF4⟩
   · rw [onOk_no hy] at HR
     have hyb : (y == 0) = false := by simpa using hy
     go_wp2
     go_region_held (fun w' => w'.cell? ⟨q, 1, none⟩ = some (.int .i64 (fr : Int))) (simp [*])
      (first
        | (go_at_call 155; refine (HHD.out 1).mono ?_; rintro e w5 ⟨rfl, hh5, hb5'⟩; have hb5 : Below w2.heap.size w2 w5 := ⟨hb5'.os, hb5'.tape, hb5'.output, hb5'.size, hb5'.block⟩; have k15 := HK1.out w5 hb5)
        | (go_at_call 154; refine (HLY.out w5 hb5 hh5).mono ?_; rintro e w6 ⟨rfl, fp6, hD6, hO6, hF6⟩; have hC6 := (HC2.out.belowW hb5).next hD6 hO6 hF6; have k16 := hC6.fl.c1))
     all_goals go_wp2
     all_goals rw [Exit.jumps_ret]
     all_goals go_ret
     all_goals rw [← HR.out]
     all_goals exact ⟨rfl, _, hC6⟩
 · rw [onOk_no hx] at HR
   have hxb : (x == 0) = false := by simpa using hx
   go_enter Tryz.func135, Tryz.ntmps135
   go_wp2
   refine wp_scope_fwd 4 ?_
   go_wp2
   go_step3
   refine ⟨_, rfl, ?_⟩
   go_wp2_with (first | (go_at_call 134; refine HJO.out.mono ?_; rintro e w' ⟨rfl, hw⟩; have hw := hw.symm; subst hw) | (go_at_call 154; refine HLA.out.mono ?_; rintro e w2 ⟨rfl, fp2, hD2, hO2, hF2⟩))
   rw [Exit.jumps_ret]
   go_ret
   rw [← HR.out]
   exact ⟨rfl, _, HC0.out.next hD2 hO2 hF2⟩
end Go.Proofs.YteeembildppgmaaGreat
namespace Go.Proofs.YteeembildppgmaaGreat
open Go.RowKit
set_option linter.unusedVariables false
set_option linter.unusedSimpArgs false
theorem more_more (D : Dv) (a : Nat) : ∀ b, (D.more a).more b = D.more (a + b)
 | 0 => rfl
 | b + 1 => by
   show ({ (D.more a).more b with calls := wrap64 (((D.more a).more b).calls + 1) } : Dv) = { D.more (a + b) with calls := wrap64 ((D.more (a + b)).calls + 1) }
   rw [more_more D a b]
theorem more_four (D : Dv) (a i : Nat) : (D.more a).four i = D.four i := by
 unfold Dv.four
 simp only [more_newest]
theorem DevAt.wf {w : World} {p : Nat} {fp : List Nat} {D : Dv} (h : DevAt w p fp D) : D.wf := let ⟨_, _, _, x⟩ := h; x.wf
theorem DevAt.lim {w : World} {p : Nat} {fp : List Nat} {D : Dv} (h : DevAt w p fp D) : ∀ k ∈ fp, k < w.heap.size := let ⟨_, _, _, x⟩ := h; x.lim

section
variable {w : World} {q p fr n : Nat} {failed : Bool} {fp : List Nat} {D : Dv}
theorem FileAt.fail {b : Bool} (h : FileAt w q p fr n failed) : FileAt (w.setCell ⟨q, 3, none⟩ (.bool b)) q p fr n b := by
 unfold FileAt at h ⊢
 rw [heap_setCell_same w q 3 _ _ _ h]
 rfl
set_option maxHeartbeats 400000 in
theorem fwrite_go (i g c : Nat) (bs : List UInt8) (hl : bs.length = 512) (hc : 512 ≤ c) (h : FileAt w q p fr n false) (hD : DevAt w p fp D) (hq : q ∉ fp) (hs : SrcAt w g 0 bs) (hg : g ∉ fp) (hW : D.W.length ≤ 800000) (hfr : fr ≤ 549755813888) (hi : i < n) (hn : n ≤ 34359738368) :
 Calls Tryz.prog 116 #[.pointer (some ⟨q, 0, none⟩), .int .i64 (i : Int), .slice (some ⟨g, 0, none⟩) 512 c] w fun e w' => e = .returned (.int .i64 (D.carJ fr i bs).1) ∧
  ∃ fp', FileAt w' q p fr n ((D.carJ fr i bs).1 != 0) ∧ DevAt w' p fp' (D.carJ fr i bs).2 ∧ Off (q :: fp) w w' ∧ (∀ k ∈ fp', k ∈ fp ∨ w.heap.size ≤ k) ∧ q ∉ fp' := by
 have k3 := h.c3
 have HO := hide (has_in i h hi)
 have HCA := hide (carry_journal (n := n) (failed := false) i g c bs hl hc ⟨h, hD, hs, Off.refl _ _, fun k hk => .inl hk, hq, hg⟩ hW hfr (by omega))
 obtain ⟨⟨x, E⟩, hX⟩ : ∃ X, D.carJ fr i bs = X := ⟨_, rfl⟩
 rw [hX] at HCA ⊢
 clear hX
 go_enter Tryz.func116, Tryz.ntmps116
 go_wp2_with (first | (go_at_call 120; refine HO.out.mono ?_; rintro e w' ⟨rfl, hw⟩; have hw := hw.symm; subst hw) | fail)
 refine HCA.out.mono ?_
 rintro e w4 ⟨rfl, fp4, hC4⟩
 have k34 := hC4.fl.c3
 have f34 := hC4.fl.fz 3
 have HC4 := hide hC4
 clear hC4 HCA HO k3
 go_wp2
 go_ret
 refine ⟨rfl, fp4, HC4.out.fl.fail, HC4.out.dev.apart ((Off.refl [q] w4).setCell _ _ (.inl (by simp))) (fun k hk hm => by simp at hm; exact HC4.out.nq (hm ▸ hk)), ?_, HC4.out.fresh, HC4.out.nq⟩
 exact (HC4.out.off.mono (fun k hk => List.mem_cons_of_mem q hk)).setCell _ _ (.inl (by simp))

set_option maxHeartbeats 400000 in
theorem fread_ok (i : Nat) (h : FileAt w q p fr n failed) (hD : DevAt w p fp D) (hq : q ∉ fp) (hd : D.dead = false) (hW : D.W.length ≤ 900000) (hfr : fr + 5 + 4 * n ≤ D.L.length) (hi : i < n) :
 Calls Tryz.prog 94 #[.pointer (some ⟨q, 0, none⟩), .int .i64 (i : Int)] w fun e w' => e = .returned (.tuple #[.slice (some ⟨w.heap.size, 0, none⟩) 512 512, .int .i64 0]) ∧
  w'.heap[w.heap.size]? = some (.cells (secCells (D.four (fr + 5 + 4 * i))).toArray 5 (0, 0)) ∧ DevAt w' p fp (D.more 4) ∧ Off fp w w' := by
 have hmax := hD.wf.max
 have HO := hide (has_in i h hi)
 have HPL := hide (place_any i h (by omega) (by omega))
 have HFE := hide (fetch_ok (fr + 5 + 4 * i) h hD hq hd hW (by omega))
 go_enter Tryz.func94, Tryz.ntmps94
 go_wp2_with (first | (go_at_call 120; refine HO.out.mono ?_; rintro e w' ⟨rfl, hw⟩; have hw := hw.symm; subst hw) | (go_at_call 122; refine HPL.out.mono ?_; rintro e w' ⟨rfl, hw⟩; have hw := hw.symm; subst hw) | (go_at_call 121; refine HFE.out.mono ?_; rintro e w4 ⟨rfl, h1, h2, h3⟩))
 go_ret2
 exact ⟨rfl, h1, h2, h3⟩

def Dv.named (D : Dv) (fr : Nat) : Nat := beval ((D.newest fr).take 8)
def Dv.mend (D : Dv) (fr n : Nat) : Int × Dv :=
 if D.dead = true then (50, D) else if D.named fr < 1 ∨ n < D.named fr then (0, D.more 1) else (D.more 5).carP fr (D.named fr - 1) (D.four (fr + 1))

set_option maxHeartbeats 1000000 in
theorem mend_any (h : FileAt w q p fr n failed) (hD : DevAt w p fp D) (hq : q ∉ fp) (hW : D.W.length ≤ 700000) (hfr : fr + 5 + 4 * n ≤ D.L.length) :
 Calls Tryz.prog 107 #[.pointer (some ⟨q, 0, none⟩)] w fun e w' => e = .returned (.int .i64 (D.mend fr n).1) ∧
  ∃ fp', FileAt w' q p fr n failed ∧ DevAt w' p fp' (D.mend fr n).2 ∧ Off fp w w' ∧ (∀ k ∈ fp', k ∈ fp ∨ w.heap.size ≤ k) ∧ q ∉ fp' := by
 have hmax := hD.wf.max
 have k0 := h.c0
 have k1 := h.c1
 have HK0 := hide (fun (W : World) (ho : Off fp w W) => (h.off ho hq).c0)
 have HK1 := hide (fun (W : World) (ho : Off fp w W) => (h.off ho hq).c1)
 obtain ⟨R, hR⟩ : ∃ R, D.mend fr n = R := ⟨_, rfl⟩
 rw [hR]
 unfold Dv.mend at hR
 have HR := hide hR
 clear hR
 by_cases hd : D.dead = true
 · rw [if_pos hd] at HR
   have HRD := hide (fun d => read_dead p (fr : Int) (w.drewN d) fp D (hD.drewN d) hd)
   go_enter Tryz.func107, Tryz.ntmps107
   go_wp2
   go_region_held (fun w' => w'.cell? ⟨q, 0, none⟩ = some (.pointer (some ⟨p, 0, none⟩)) ∧ w'.cell? ⟨q, 1, none⟩ = some (.int .i64 (fr : Int))) (simp [*])
    (first | (go_at_call 18; refine (HRD.out 1).mono ?_; rintro e w4 ⟨rfl, rfl⟩))
   all_goals go_wp2
   all_goals go_ret
   all_goals
    rw [← HR.out]
    exact ⟨rfl, fp, h, hD.drewN 1, (Off.refl _ _).drewN 1, fun k hk => .inl hk, hq⟩
 · have hd' : D.dead = false := by simpa using hd
   rw [if_neg hd] at HR
   have hX := length_newest D hD.wf fr (by omega)
   have HRD := hide (fun d => read_ok p fr (w.drewN d) fp D (hD.drewN d) hd' (by omega) (by omega))
   have HX := hide hX
   have HQ := hide hq
   have HF := hide h
   have HF5 := hide (fun (W : World) (hh : FileAt W q p fr n failed) (hd : DevAt W p fp (D.more 1)) => fetch_ok (fr + 1) hh hd hq (by rw [more_dead]; exact hd') (by rw [more_W]; omega) (by rw [more_L]; omega))
   rw [more_more, more_four] at HF5
   have HL4 := hide (length_four hD.wf (fr + 1) (by omega))
   have HMW : Hid ((D.more 5).W.length ≤ 800000) := by show _ ≤ _; rw [more_W]; omega
   have hwn : IntKind.u64.wrap (n : Int) = (n : Int) := by rw [wrapU]; omega
   clear hX hD h hd hd'
   obtain ⟨v, hv⟩ : ∃ v, D.named fr = v := ⟨_, rfl⟩
   have HV : Hid (beval ((D.newest fr).take 8) = v) := hv
   rw [hv] at HR
   clear hv
   have hwv : IntKind.u64.wrap (v : Int) = (v : Int) := by
    have := beval_lt ((D.newest fr).take 8)
    rw [HV.out, List.length_take, HX.out] at this
    rw [wrapU]
    have e : 256 ^ (min 8 128) = 18446744073709551616 := by decide
    omega
   by_cases hr : v < 1 ∨ n < v
   · rw [if_pos hr] at HR
     go_enter Tryz.func107, Tryz.ntmps107
     go_wp2
     go_region_held (fun w' => w'.cell? ⟨q, 0, none⟩ = some (.pointer (some ⟨p, 0, none⟩)) ∧ w'.cell? ⟨q, 1, none⟩ = some (.int .i64 (fr : Int))) (simp [*])
      (first | (go_at_call 18; refine (HRD.out 1).mono ?_; rintro e w4 ⟨g, rfl, hg1, hg2, hD4, hO4'⟩; have hO4 : Off fp w w4 := hO4'.undrewN; clear hO4'; have k04 := HK0.out w4 hO4; have k14 := HK1.out w4 hO4))
     all_goals
      have hD4 : DevAt w4 p fp (D.more 1) := hD4
      have HNU := hide (number_any g 128 (D.newest fr) 5 (0, 0) w4 hg2 HX.out (by omega))
      rw [HV.out] at HNU
      have HD4 := hide hD4
      have HO4 := hide hO4
      have k24 := (HF.out.off hO4 HQ.out).c2
      clear hD4 hO4 hg2
      by_cases h1 : v < 1
      · go_wp2_with (first | (go_at_call 133; refine HNU.out.mono ?_; rintro e w' ⟨rfl, hw⟩; have hw := hw.symm; subst hw))
        go_ret
        rw [← HR.out]
        exact ⟨rfl, HF.out.off HO4.out HQ.out, fp, HD4.out, HO4.out, fun k hk => .inl hk, HQ.out⟩
      · have h2 : n < v := by omega
        go_wp2_with (first | (go_at_call 133; refine HNU.out.mono ?_; rintro e w' ⟨rfl, hw⟩; have hw := hw.symm; subst hw))
        go_ret
        rw [← HR.out]
        exact ⟨rfl, fp, HF.out.off HO4.out HQ.out, HD4.out, HO4.out, fun k hk => .inl hk, HQ.out⟩
   · rw [if_neg hr] at HR
     have h1 : ¬ v < 1 := fun hx => hr (.inl hx)
     have h2 : ¬ n < v := fun hx => hr (.inr hx)
     clear hr
     go_enter Tryz.func107, Tryz.ntmps107
     go_wp2
     go_region_held (fun w' => w'.cell? ⟨q, 0, none⟩ = some (.pointer (some ⟨p, 0, none⟩)) ∧ w'.cell? ⟨q, 1, none⟩ = some (.int .i64 (fr : Int))) (simp [*])
      (first | (go_at_call 18; refine (HRD.out 1).mono ?_; rintro e w4 ⟨g, rfl, hg1, hg2, hD4, hO4'⟩; have hO4 : Off fp w w4 := hO4'.undrewN; clear hO4'; have k04 := HK0.out w4 hO4; have k14 := HK1.out w4 hO4))
     all_goals
      have hD4 : DevAt w4 p fp (D.more 1) := hD4
      have HNU := hide (number_any g 128 (D.newest fr) 5 (0, 0) w4 hg2 HX.out (by omega))
      rw [HV.out] at HNU
      have HO4 := hide hO4
      have hF4 := HF.out.off hO4 HQ.out
      have k24 := hF4.c2
      have HJO := hide (journal_any hF4 (by omega))
      have HFE := hide (HF5.out w4 hF4 hD4)
      have HNIN : Hid (w4.heap.size ∉ fp) := fun hm => by have := hD4.lim _ hm; omega
      clear hD4 hO4 hg2 hF4
      have hwi : IntKind.i64.wrap (v : Int) = (v : Int) := by rw [IntKind.wrap_i64]; omega
      have hwi2 : IntKind.i64.wrap ((v : Int) - 1) = (v : Int) - 1 := by rw [IntKind.wrap_i64]; omega
      go_wp2_with (first
       | (go_at_call 133; refine HNU.out.mono ?_; rintro e w' ⟨rfl, hw⟩; have hw := hw.symm; subst hw)
       | (go_at_call 134; refine HJO.out.mono ?_; rintro e w' ⟨rfl, hw⟩; have hw := hw.symm; subst hw)
       | fail)
      refine HFE.out.mono ?_
      rintro e w6 ⟨rfl, hb6, hD6, hO6⟩
      have hF6 := (HF.out.off HO4.out HQ.out).off hO6 HQ.out
      have HCA := hide (carry_page (v - 1) w4.heap.size 512 (D.four (fr + 1)) HL4.out (by omega) ⟨hF6, hD6, SrcAt.block hb6, Off.refl _ _, fun k hk => .inl hk, HQ.out, HNIN.out⟩ HMW.out (by omega) (by omega))
      rw [show ((v - 1 : Nat) : Int) = (v : Int) - 1 by omega, HR.out] at HCA
      have HO6 := hide hO6
      clear hb6 hD6 hO6 hF6
      go_wp2_with fail
      refine HCA.out.mono ?_
      rintro e w7 ⟨rfl, fp7, hC7⟩
      have HC7 := hide hC7
      clear hC7
      go_wp2
      go_ret
      exact ⟨rfl, fp7, HC7.out.fl, HC7.out.dev, (HO4.out.trans HO6.out (fun k hk => .inl hk)).trans HC7.out.off (fun k hk => .inl hk), fresh_off (fun k hk => .inl hk) (HO4.out.trans HO6.out (fun k hk => .inl hk)) HC7.out.fresh, HC7.out.nq⟩

set_option maxHeartbeats 400000 in
theorem open_go (hD : DevAt w p fp D) (hn : 1 ≤ n) (hW : D.W.length ≤ 700000) (hfr : fr + 5 + 4 * n ≤ D.L.length) :
 Calls Tryz.prog 73 #[.pointer (some ⟨p, 0, none⟩), .int .i64 (fr : Int), .int .i64 (n : Int)] w fun e w' =>
  e = .returned (.tuple #[.pointer (if (D.mend fr n).1 = 0 then some ⟨w.heap.size, 0, none⟩ else none), .int .i64 (D.mend fr n).1]) ∧
  ∃ fp', FileAt w' w.heap.size p fr n false ∧ DevAt w' p fp' (D.mend fr n).2 ∧ Off fp w w' ∧ (∀ k ∈ fp', k ∈ fp ∨ w.heap.size ≤ k) ∧ w.heap.size ∉ fp' := by
 have HS := hide (size_dev p w fp D hD)
 have hmax := hD.wf.max
 have hnq : w.heap.size ∉ fp := fun hm => by have := hD.lim _ hm; omega
 have HM := hide (fun (W : World) (hb : Below w.heap.size w W) (hf : FileAt W w.heap.size p fr n false) => mend_any hf (hD.below hb) hnq hW hfr)
 have d1 : decide ((n : Int) < 1) = false := by simp; omega
 have d2 : decide ((fr : Int) < 0) = false := by simp
 have d3 : decide ((D.L.length : Int) < (fr : Int)) = false := by simp; omega
 have d4 : decide (((D.L.length : Int) - (fr : Int) - 5).tdiv 4 < (n : Int)) = false := by
  rw [Int.tdiv_eq_ediv_of_nonneg (by omega)]
  simp
  omega
 obtain ⟨⟨x, E⟩, hX⟩ : ∃ X, D.mend fr n = X := ⟨_, rfl⟩
 rw [hX] at HM ⊢
 clear hX
 by_cases hx : x = 0
 · subst hx
   rw [if_pos rfl]
   go_enter Tryz.func73, Tryz.ntmps73
   go_wp2_with (first | (go_at_call 47; refine HS.out.mono ?_; rintro e w' ⟨rfl, hw⟩; have hw := hw.symm; subst hw) | fail)
   refine (HM.out _ ((Below.refl _ _).alloc (Nat.le_refl _) _) (heap_alloc_new _ _)).mono ?_
   rintro e w3 ⟨rfl, fp3, h1, h2, h3, h4, h5⟩
   go_wp2
   go_ret2
   exact ⟨rfl, fp3, h1, h2, ((Off.refl fp w).alloc _).trans h3 (fun k hk => .inl hk), fun k hk => (h4 k hk).imp id (fun h => by simp at h; omega), h5⟩
 · have hxb : (x != 0) = true := by simpa using hx
   rw [if_neg hx]
   go_enter Tryz.func73, Tryz.ntmps73
   go_wp2_with (first | (go_at_call 47; refine HS.out.mono ?_; rintro e w' ⟨rfl, hw⟩; have hw := hw.symm; subst hw) | fail)
   refine (HM.out _ ((Below.refl _ _).alloc (Nat.le_refl _) _) (heap_alloc_new _ _)).mono ?_
   rintro e w3 ⟨rfl, fp3, h1, h2, h3, h4, h5⟩
   go_wp2
   go_ret2
   exact ⟨rfl, fp3, h1, h2, ((Off.refl fp w).alloc _).trans h3 (fun k hk => .inl hk), fun k hk => (h4 k hk).imp id (fun h => by simp at h; omega), h5⟩
end
end Go.Proofs.YteeembildppgmaaGreat
