/- How values are spelt, and how a row of the example is. -/
import Derived.Test.YtplpchaceiogaaaDoorCon
import Derived.Test.YtplpchaceiogaaaDoorIdx
import Derived.Test.YtplpchaceiogaaaDoorLib
namespace Go.Proofs.YtplpchaceiogaaaDoor
open Go.RowKit
set_option linter.unusedVariables false
set_option linter.unusedSimpArgs false
set_option maxRecDepth 100000

def itS : List UInt8 := [105, 116, 39, 115]
def itQ : List UInt8 := [105, 116, 39, 39, 115]
def itT : List UInt8 := [39, 105, 116, 39, 39, 115, 39]
theorem repl_any (m : Int) (w : World) (hm : w.cell? ⟨0, 0, none⟩ = some (.int .i64 m)) : Calls Tryd.prog 68 #[.string (strOf itS), .string { data := #[39] }, .string { data := #[39, 39] }] w fun e w' => e = .returned (.string (strOf itQ)) ∧ Below w.heap.size w w' :=
  (Tryd.strings_ReplaceAll (strOf itS) ⟨#[39]⟩ ⟨#[39, 39]⟩ m w (by decide) hm (by decide) (by decide)).mono fun e w' ⟨h1, h2⟩ => ⟨h1.trans (by
    have e2 : Lib.replaceAll (strOf itS).data.toList (⟨#[39]⟩ : ByteArray).data.toList (⟨#[39, 39]⟩ : ByteArray).data.toList = itQ := by decide
    rw [e2]
    rfl), h2⟩
set_option maxHeartbeats 2000000 in
theorem text_its (m : Int) (w : World) (hm : w.cell? ⟨0, 0, none⟩ = some (.int .i64 m)) : Calls Tryd.prog 42 #[valOf (tV itS)] w fun e w' => e = .returned (.string (strOf itT)) ∧ Below w.heap.size w w' := by
  have hm1 : (w.alloc (.cells #[.int .i64 2, .int .i64 0, .string (strOf itS), .bool false] 32)).cell? ⟨0, 0, none⟩ = some (.int .i64 m) := (((Below.refl _ w).alloc (Nat.le_refl _) _).cell (p := ⟨0, 0, none⟩) (World.block_lt_of_cell? w _ hm)).trans hm
  have HR := hide (repl_any m _ hm1)
  have HB : Hid (Below w.heap.size w (w.alloc (.cells #[.int .i64 2, .int .i64 0, .string (strOf itS), .bool false] 32))) := (Below.refl _ w).alloc (Nat.le_refl _) _
  have HT : Hid (strOf itT = ({ data := #[39] } : ByteArray) ++ strOf itQ ++ ({ data := #[39] } : ByteArray)) := rfl
  have s1 : (strOf itQ).size = 5 := rfl
  have s2 : (({ data := #[39] } : ByteArray) ++ strOf itQ).size = 6 := rfl
  have HV : Hid (valOf (tV itS) = .agg #[.int .i64 2, .int .i64 0, .string (strOf itS), .bool false]) := rfl
  rw [HV.out]
  clear hm hm1
  generalize strOf itT = T at *
  generalize strOf itQ = Q at *
  generalize strOf itS = S at *
  go_enter Tryd.func42, Tryd.ntmps42
  go_wp2_with (go_at_call 68; refine HR.out.mono ?_; rintro e w1 ⟨rfl, hb1⟩; have HB1 := hide hb1; clear hb1)
  go_ret
  rw [HT.out]
  exact ⟨rfl, thenW HB.out HB1.out⟩
set_option maxHeartbeats 1000000 in
theorem text_one (w : World) : Calls Tryd.prog 42 #[.agg #[.int .i64 1, .int .i64 1, .string { data := #[] }, .bool false]] w fun e w' => e = .returned (.string { data := #[49] }) ∧ Below w.heap.size w w' := by
  have HR : Hid (∀ W, Calls Tryd.prog 67 #[.int .i64 1] W fun e w' => e = .returned (.string { data := #[49] }) ∧ w' = W) := fun W => by
    have h1 := Tryd.strconv_Itoa_small 1 (by decide) W
    have e : (Lib.decDigits 1).toArray = #[49] := by rw [Lib.decDigits]; rfl
    rw [e] at h1
    exact h1
  go_enter Tryd.func42, Tryd.ntmps42
  go_wp2_with (go_at_call 67; refine (HR.out _).mono ?_; rintro e w1 ⟨rfl, hw1⟩; have hw1 := hw1.symm; subst hw1)
  go_ret
  exact ⟨rfl, (Below.refl _ w).alloc (Nat.le_refl _) _⟩
set_option maxHeartbeats 1000000 in
theorem text_null (w : World) : Calls Tryd.prog 42 #[.agg #[.int .i64 0, .int .i64 0, .string { data := #[] }, .bool false]] w fun e w' => e = .returned (.string { data := #[78, 85, 76, 76] }) ∧ Below w.heap.size w w' := by
  go_enter Tryd.func42, Tryd.ntmps42
  go_wp2
  go_ret
  exact ⟨rfl, (Below.refl _ w).alloc (Nat.le_refl _) _⟩
/-! ### Rows of texts -/
theorem Tryd.info9 : (Tryd.prog.info? 9).map (fun i => (i.zero, i.size, i.bytes)) = some (some (.string { data := #[] }), 1, 16) := by kernel_rfl
theorem make72 (n : Nat) (hn : n ≤ 2000000) (w : World) : (Instr.makeSlice 72 (.int .i64 (n : Int)) (.int .i64 (n : Int))).run Tryd.prog w = .ok (.slice (some ⟨w.heap.size, 0, none⟩) n n) (w.alloc (.cells (List.replicate n (.string { data := #[] })).toArray 9)) := by
  obtain ⟨i, hi, hz⟩ := Option.map_eq_some_iff.1 Tryd.info9
  simp only [Prod.mk.injEq] at hz
  obtain ⟨hz, hs, hb⟩ := hz
  have h := run_make (P := Tryd.prog) w 72 9 i _ Tryd.underlying72 hi hz .i64 .i64 n n (by omega) (by omega) (by rw [hb]; omega) (by omega)
  rw [h, hs, Int.toNat_natCast, Nat.mul_one]
  rw [show (Value.string { data := #[] }).cells = #[.string { data := #[] }] from rfl, made_one]
/-- A block of texts. -/
def Words (w : World) (g : Nat) (ts : List (List UInt8)) : Prop := w.heap[g]? = some (.cells (ts.map fun t => Value.string (strOf t)).toArray 9 (0, 0))
theorem Words.belowW {g : Nat} {w w' : World} {ts : List (List UInt8)} (h : Words w g ts) (hb : Below w.heap.size w w') : Words w' g ts := (hb.block g (lt_of_heap h)).trans h
theorem Words.cell {w : World} {g : Nat} {ts : List (List UInt8)} (h : Words w g ts) (j : Nat) (hj : j < ts.length) : w.cell? ⟨g, j, none⟩ = some (.string (strOf (ts.getD j []))) := by
  rw [cell_row h]
  simp [hj]
theorem Words.set {w : World} {g : Nat} {ts : List (List UInt8)} (h : Words w g ts) (j : Nat) (t : List UInt8) : Words (w.setCell ⟨g, j, none⟩ (.string (strOf t))) g (ts.set j t) := by
  unfold Words
  rw [heap_set_same _ h]
  simp
/-- A row's text, where the values' texts are known. -/
def TxIs (w : World) (l : List Vl) (f : Vl → List UInt8) : Prop := ∀ W, Below w.heap.size w W → ∀ k, k < l.length → Calls Tryd.prog 42 #[valOf (l.getD k Vl.zero)] W fun e w' => e = .returned (.string (strOf (f (l.getD k Vl.zero)))) ∧ Below W.heap.size W w'
def wordsTo (l : List Vl) (f : Vl → List UInt8) (k : Nat) : List (List UInt8) := (l.take k).map f ++ List.replicate (l.length - k) []
theorem wordsTo_zero (l : List Vl) (f : Vl → List UInt8) : wordsTo l f 0 = List.replicate l.length [] := by simp [wordsTo]
theorem wordsTo_len (l : List Vl) (f : Vl → List UInt8) (k : Nat) (hk : k ≤ l.length) : (wordsTo l f k).length = l.length := by simp [wordsTo]; omega
theorem wordsTo_set (l : List Vl) (f : Vl → List UInt8) (k : Nat) (hk : k < l.length) : (wordsTo l f k).set k (f (l.getD k Vl.zero)) = wordsTo l f (k + 1) := by
  have e : List.replicate (l.length - k) ([] : List UInt8) = [] :: List.replicate (l.length - (k + 1)) [] := by
    rw [show l.length - k = (l.length - (k + 1)) + 1 by omega, List.replicate_succ]
  unfold wordsTo
  have h1 : ((l.take k).map f).length = k := by simp; omega
  rw [e, List.set_append_right _ _ (by rw [h1]; exact Nat.le_refl _), h1, Nat.sub_self, List.set_cons_zero, List.take_succ_eq_append_getElem hk, List.map_append, List.append_assoc]
  simp [hk]
theorem wordsTo_all (l : List Vl) (f : Vl → List UInt8) : wordsTo l f l.length = l.map f := by simp [wordsTo]
set_option maxHeartbeats 4000000 in
theorem text23 {w : World} {v : Value} {l : List Vl} (f : Vl → List UInt8) (h : VsAt w v l) (hx : TxIs w l f) (hn : l.length ≤ 2000000) (hlen : (Lib.join (l.map f) [44, 32]).length ≤ 140737488355328) :
    Calls Tryd.prog 23 #[v] w fun e w' => e = .returned (.string (strOf (Lib.join (l.map f) [44, 32]))) ∧ Below w.heap.size w w' := by
  obtain ⟨ao, c, rfl, hc1, hc2⟩ := h.len
  simp only [maxLen] at hc2
  have H := hide h
  have HX := hide hx
  have hmk := make72 l.length hn w
  have HB0 : Hid (Below w.heap.size w (w.alloc (.cells (List.replicate l.length (.string { data := #[] })).toArray 9))) := (Below.refl _ _).alloc (Nat.le_refl _) _
  have HW0 : Hid (Words (w.alloc (.cells (List.replicate l.length (.string { data := #[] })).toArray 9)) w.heap.size (wordsTo l f 0)) := by
    rw [wordsTo_zero]
    have : (List.replicate l.length (Value.string { data := #[] })) = (List.replicate l.length []).map fun t => Value.string (strOf t) := by simp [strOf]
    rw [this]
    exact heap_alloc_new _ _
  have HSET : Hid (∀ k, k < l.length → (wordsTo l f k).set k (f (l.getD k Vl.zero)) = wordsTo l f (k + 1)) := fun k hk => wordsTo_set l f k hk
  have HLN : Hid (∀ k, k ≤ l.length → (wordsTo l f k).length = l.length) := fun k hk => wordsTo_len l f k hk
  have HJ : Hid (∀ W, Below w.heap.size w W → Words W w.heap.size (wordsTo l f l.length) → Calls Tryd.prog 43 #[.slice (some ⟨w.heap.size, 0, none⟩) l.length l.length, .string { data := #[44, 32] }] W fun e w' => e = .returned (.string (strOf (Lib.join (l.map f) [44, 32]))) ∧ Below W.heap.size W w') := fun W hW hT => by
    rw [wordsTo_all] at hT
    have := Tryd.strings_Join w.heap.size 0 l.length ((l.map f).map strOf) { data := #[44, 32] } W (fun j x hx => by
      rw [Nat.zero_add, cell_row hT]
      simp only [List.getElem?_toArray, List.getElem?_map] at hx ⊢
      cases hq : l[j]? with
      | none => rw [hq] at hx; simp at hx
      | some V => rw [hq] at hx; simp at hx; subst hx; rfl) (lt_of_heap hT) (by simp; omega) (by simp) (by
      have e : (((l.map f).map strOf).map fun x => x.data.toList) = l.map f := by simp [strOf]
      rw [e]; exact hlen)
    have e : (((l.map f).map strOf).map fun x => x.data.toList) = l.map f := by simp [strOf]
    rw [e] at this
    simpa [strOf] using this
  clear h hx hlen
  generalize strOf (Lib.join (l.map f) [44, 32]) = Z at *
  generalize w.alloc (.cells (List.replicate l.length (.string { data := #[] })).toArray 9) = W1 at *
  obtain ⟨n, hn2⟩ : ∃ n, l.length = n := ⟨_, rfl⟩
  have HN := hide hn2
  rw [hn2] at HSET HLN HJ hmk hc1 hn ⊢
  clear hn2
  go_enter Tryd.func23, Tryd.ntmps23
  generalize hq : w.heap.size = q at *
  have HQ := hide hq
  clear hq
  go_wp2
  clear hmk
  go_loopw [11] (fun i wr => ∃ k : Nat, k ≤ n ∧ i = .int .i64 (k : Int) ∧ Below q w wr ∧ Words wr q (wordsTo l f k)) (fun i _ => n - (intOf i).toNat)
  case atStart => exact ⟨0, by omega, rfl, HB0.out, HW0.out⟩
  case round =>
    clear HB0 HW0
    obtain ⟨k, hk, rfl, hB, hW⟩ := hrel
    have HB := hide hB
    have HW := hide hW
    have hql := lt_of_heap hW
    clear hB hW
    by_cases hlt : k < n
    · obtain ⟨g, o, hao, hC⟩ := (VsAt.belowW H.out (by rw [HQ.out]; exact HB.out)).get k (by rw [HN.out]; exact hlt)
      subst hao
      obtain ⟨k0, k1, k2, k3⟩ := hC
      have hgl := World.block_lt_of_cell? wr _ k0
      have HS := hide (HSET.out k hlt)
      have HLk := hide (HLN.out k hk)
      have HXk : Hid (∀ W, Below q w W → Calls Tryd.prog 42 #[valOf (l.getD k Vl.zero)] W fun e w' => e = .returned (.string (strOf (f (l.getD k Vl.zero)))) ∧ Below W.heap.size W w') := fun W hW => HX.out W (by rw [HQ.out]; exact hW) k (by rw [HN.out]; exact hlt)
      generalize f (l.getD k Vl.zero) = T at *
      generalize l.getD k Vl.zero = V at *
      have hv : valOf V = .agg #[.int .i64 V.ty, .int .i64 V.n, .string (strOf V.t), .bool V.b] := rfl
      rw [hv] at HXk
      clear hv
      go_upto_region 5 with fail
      have hb1 : Below wr.heap.size wr (wr.alloc (.cells #[.int .i64 V.ty, .int .i64 V.n, .string (strOf V.t), .bool V.b] 32)) := (Below.refl _ _).alloc (Nat.le_refl _) _
      have hbx : Box (wr.alloc (.cells #[.int .i64 V.ty, .int .i64 V.n, .string (strOf V.t), .bool V.b] 32)) wr.heap.size V := box_new wr V
      have HB1 : Hid (Below q w (wr.alloc (.cells #[.int .i64 V.ty, .int .i64 V.n, .string (strOf V.t), .bool V.b] 32))) := HB.out.trans (hb1.mono (Nat.le_of_lt hql))
      have HW1 : Hid (Words (wr.alloc (.cells #[.int .i64 V.ty, .int .i64 V.n, .string (strOf V.t), .bool V.b] 32)) q (wordsTo l f k)) := HW.out.belowW hb1
      clear k0 k1 k2 k3 hgl hb1
      generalize wr.alloc (.cells #[.int .i64 V.ty, .int .i64 V.n, .string (strOf V.t), .bool V.b] 32) = W2 at *
      generalize wr.heap.size = vb at *
      obtain ⟨c0, c1, c2, c3⟩ := hbx.cells
      have HC := hide (HXk.out W2 HB1.out)
      clear hbx
      go_wp2_with (go_at_call 42; refine HC.out.mono ?_; rintro e W3 ⟨rfl, hb3⟩; have HB3 := hide hb3; clear hb3; have HW3 := hide (HW1.out.belowW HB3.out); have hfz := frozen_row (o := k) HW3.out; have hcl := HW3.out.cell k (by rw [HLk.out]; exact hlt))
      go_roundw
      case rel =>
        refine ⟨k + 1, by omega, by go_num, Below.setCell' (HB1.out.trans (HB3.out.mono (Nat.le_of_lt (lt_of_heap HW1.out)))) _ _ (Nat.le_refl q), ?_⟩
        rw [← HS.out]
        exact HW3.out.set k T
      case measure => simp [intOf]; omega
    · have hkn : k = n := by omega
      subst hkn
      have HC := hide (HJ.out wr HB.out HW.out)
      go_wp2_with (go_at_call 43; refine HC.out.mono ?_; rintro e W3 ⟨rfl, hb3⟩; have HB3 := hide hb3; clear hb3)
      go_ret
      exact ⟨rfl, HB.out.trans (HB3.out.mono (Nat.le_of_lt hql))⟩
end Go.Proofs.YtplpchaceiogaaaDoor
