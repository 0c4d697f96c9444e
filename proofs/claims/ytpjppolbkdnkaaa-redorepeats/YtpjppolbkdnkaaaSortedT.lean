/- slices.SortedFunc of the map of transactions. -/
import Derived.Test.YtpjppolbkdnkaaaCollT
namespace Go.Proofs.Ytpjppolbkdnkaaa
open Go.RowKit
set_option linter.unusedVariables false
set_option linter.unusedSimpArgs false

def dirtRow (ss : List (Int × Int)) : List Value := ss.flatMap encD
section
variable [Inhabited Tx]
theorem holdsT_of_owns {w : World} {g : Nat} {cur : Array Value} {l : List (Tx)} (hg : w.heap[g]? = some (.cells cur 47 (0, 0))) (ht : cur.toList.take (l.length * 3) = txRow l) : Go.Sort.HoldsK txCells 3 w g 0 l.toArray := by
  intro j hj
  rw [Go.Sort.size_flatK] at hj
  have hj' : j < l.length * 3 := by simpa using hj
  have e : (txRow l)[j]? = some ((Go.Sort.flatK txCells 3 l.toArray)[j]!) := by
    rw [Go.Sort.get_flatK _ _ _ _ hj]
    have := flat_get 3 (l.map txCells) (fun x hx => by obtain ⟨y, _, rfl⟩ := List.mem_map.1 hx; rfl) (j / 3) (by rw [List.length_map]; omega) (j % 3) (by omega)
    rw [show j / 3 * 3 + j % 3 = j by omega] at this
    unfold txRow
    rw [List.flatMap_def, this, List.getElem_map, getElem!_pos l.toArray (j / 3) (by simp; omega), List.getElem_toArray]
    have h2 : j % 3 = 0 ∨ j % 3 = 1 ∨ j % 3 = 2 := by omega
    rcases h2 with h2 | h2 | h2 <;> rw [h2] <;> rfl
  refine ⟨?_, frozen_of_row w g _ _ _ hg⟩
  rw [Nat.zero_add, cell_of_row w g j _ _ _ hg]
  rw [← ht, List.getElem?_take, if_pos hj'] at e
  simpa using e
end
theorem holdsD_of_owns {w : World} {g : Nat} {cur : Array Value} {l : List (Int × Int)} (hg : w.heap[g]? = some (.cells cur 36 (0, 0))) (ht : cur.toList.take (l.length * 2) = dirtRow l) : Go.Sort.HoldsK encD 2 w g 0 l.toArray := by
  intro j hj
  rw [Go.Sort.size_flatK] at hj
  have hj' : j < l.length * 2 := by simpa using hj
  have e : (dirtRow l)[j]? = some ((Go.Sort.flatK encD 2 l.toArray)[j]!) := by
    rw [Go.Sort.get_flatK _ _ _ _ hj]
    have := flat_get 2 (l.map encD) (fun x hx => by obtain ⟨y, _, rfl⟩ := List.mem_map.1 hx; rfl) (j / 2) (by rw [List.length_map]; omega) (j % 2) (by omega)
    rw [show j / 2 * 2 + j % 2 = j by omega] at this
    unfold dirtRow
    rw [List.flatMap_def, this, List.getElem_map, getElem!_pos l.toArray (j / 2) (by simp; omega), List.getElem_toArray]
    have h2 : j % 2 = 0 ∨ j % 2 = 1 := by omega
    rcases h2 with h2 | h2 <;> rw [h2] <;> rfl
  refine ⟨?_, frozen_of_row w g _ _ _ hg⟩
  rw [Nat.zero_add, cell_of_row w g j _ _ _ hg]
  rw [← ht, List.getElem?_take, if_pos hj'] at e
  simpa using e

/-- A slice of transactions. -/
def TxsAt (w : World) (a : Option Addr) (d : List Tx) : Prop := ∀ (i : Nat) (x : Tx), d[i]? = some x → ∃ b o, a = some ⟨b, o, none⟩ ∧ b < w.heap.size ∧ w.rangeAt b (o + i * 3) (txCells x)
theorem TxsAt.below {w w' : World} {a : Option Addr} {d : List Tx} (h : TxsAt w a d) (hb : Below w.heap.size w w') : TxsAt w' a d := fun i x hx => by
  obtain ⟨b, o, h1, h2, h3⟩ := h i x hx
  exact ⟨b, o, h1, Nat.lt_of_lt_of_le h2 hb.size, fun j v hv => (hb.cell (p := ⟨b, o + i * 3 + j, none⟩) h2).trans (h3 j v hv)⟩
section
variable [Inhabited Tx]
theorem txs_of_holds {w : World} {g : Nat} {d : Array Tx} (hg : g < w.heap.size) (h : Go.Sort.HoldsK txCells 3 w g 0 d) : TxsAt w (some ⟨g, 0, none⟩) d.toList := by
  intro i x hx
  obtain ⟨hj, rfl⟩ := List.getElem?_eq_some_iff.1 hx
  have hj' : i < d.size := by simpa using hj
  have a0 := (h.cell (i := i) (c := 0) hj' (by omega)).1
  have a1 := (h.cell (i := i) (c := 1) hj' (by omega)).1
  have a2 := (h.cell (i := i) (c := 2) hj' (by omega)).1
  rw [getElem!_pos d i hj'] at a0 a1 a2
  refine ⟨g, 0, rfl, hg, fun j v hv => ?_⟩
  match j, hv with
  | 0, hv => rw [← hv]; exact a0
  | 1, hv => rw [← hv]; exact a1
  | 2, hv => rw [← hv]; exact a2
  | j + 3, hv => exact absurd hv (by simp [txCells])
end
theorem dirts_of_holds {w : World} {g : Nat} {d : Array (Int × Int)} (hl : d.size ≤ 1000000) (hin : ∀ x ∈ d.toList, In64 x.1 ∧ In64 x.2) (hg : g < w.heap.size) (h : Go.Sort.HoldsK encD 2 w g 0 d) : DirtsAt w (some ⟨g, 0, none⟩) d.toList := by
  refine ⟨by simpa using hl, fun i x hx => ?_⟩
  obtain ⟨hj, rfl⟩ := List.getElem?_eq_some_iff.1 hx
  have hj' : i < d.size := by simpa using hj
  have a0 := (h.cell (i := i) (c := 0) hj' (by omega)).1
  have a1 := (h.cell (i := i) (c := 1) hj' (by omega)).1
  rw [getElem!_pos d i hj'] at a0 a1
  have hm := hin _ (List.getElem_mem hj)
  refine ⟨hm.1, hm.2, g, 0, rfl, hg, fun j v hv => ?_⟩
  match j, hv with
  | 0, hv => rw [← hv]; exact a0
  | 1, hv => rw [← hv]; exact a1
  | j + 2, hv => exact absurd hv (by simp)
/-- What SortedFunc(Values(m)) tells. -/
def TxnsOf (f : Int → Option Tx) (d : List Tx) : Prop := ∃ ss, ValsT f ss ∧ d.Perm ss ∧ d.Pairwise (fun x y => x.id ≤ y.id)
set_option maxHeartbeats 2000000 in
set_option maxRecDepth 100000 in
theorem sortedT_any (Bm b nn : Nat) (f : Int → Option Tx) (w : World) (hBm : w.heap[Bm]? = some (.cells #[.map (some b)] 67 (0, 0))) (h : MapT w b nn f) (hnn : nn ≤ 1000000) (hne : ∃ k, In64 k ∧ (f k).isSome = true) (h12 : ∀ ss, ValsT f ss → ss.length ≤ 12) :
    Calls Try.prog 24 #[.func (.func 48) #[] #[.pointer (some ⟨Bm, 0, none⟩)], .func (.func 26) #[] #[]] w fun e w' => ∃ (g c : Nat) (d : List Tx), e = .returned (.slice (some ⟨g, 0, none⟩) d.length c) ∧ d.length ≤ c ∧ TxnsOf f d ∧ TxsAt w' (some ⟨g, 0, none⟩) d ∧ Below w.heap.size w w' := by
  haveI : Inhabited Tx := ⟨Tx.zero⟩
  have HC := hide (collectT_any Bm b nn f w hBm h hnn)
  clear hBm h
  go_enter Try.func24, Try.ntmps24
  go_wp2_with (first
    | (go_at_call 46; refine HC.out.mono ?_; rintro e x1 ⟨v, ss, rfl, hV, hrow, hb⟩
       obtain ⟨g, cap, cur, rfl, hbase, hg, hr1, hr2, hr3, hr4⟩ : ∃ g cap cur, v = .slice (some ⟨g, 0, none⟩) ss.length cap ∧ w.heap.size ≤ g ∧ x1.heap[g]? = some (.cells cur 47 (0, 0)) ∧ ss.length ≤ cap ∧ cap ≤ maxLen ∧ cur.size = cap * 3 ∧ cur.toList.take (ss.length * 3) = txRow ss := by
         rcases hrow.2 with ⟨_, h0⟩ | h'
         · exfalso
           obtain ⟨k, hk, hfk⟩ := hne
           obtain ⟨ks, _, hm, _, ha⟩ := hV
           have := ha k hk hfk
           have e1 : ks.length = ss.length := by have := congrArg List.length hm; simpa using this
           rw [h0] at e1
           rw [List.length_eq_zero_iff.1 e1] at this
           cases this
         · exact h'
       have hlt : g < x1.heap.size := (Array.getElem?_eq_some_iff.1 hg).1
       have HS := hide (sortT_any g cap ss.toArray x1 (holdsT_of_owns hg hr4) hlt (by simpa using h12 ss hV))
       have hsz : ss.toArray.size = ss.length := by simp
       rw [hsz] at HS
       have HV := hide hV
       have HB := hide hb
       clear hrow hr4 hg hV hb)
    | (go_at_call 47; refine HS.out.mono ?_; rintro e x2 ⟨rfl, d, hp, hd, hpw, hH, hO⟩; have H2 := hide (And.intro hp (And.intro hd (And.intro hpw (And.intro hH hO)))); clear hp hd hpw hH hO))
  go_ret
  obtain ⟨hp, hd, hpw, hH, hO⟩ := H2.out
  have hl : ss.length = d.toList.length := (hsz.symm.trans hd.symm).trans Array.length_toList.symm
  refine ⟨g, cap, d.toList, by rw [hl]; rfl, by omega, ⟨ss, HV.out, by simpa using hp, hpw⟩, txs_of_holds (Nat.lt_of_lt_of_le hlt hO.size) hH, ?_⟩
  exact HB.out.trans (hO.below (B := w.heap.size) HB.out.size (by simpa using hbase))
end Go.Proofs.Ytpjppolbkdnkaaa
