/- A part of it: ERd ESteps. -/
import Derived.Test.YteeembildppgmaaGreatM14
import Derived.Deep.RegionHeld
namespace Go.Proofs.YteeembildppgmaaGreat.Enc
open Go.RowKit
set_option linter.unusedVariables false
set_option linter.unusedSimpArgs false
set_option maxHeartbeats 400000 in
theorem bound_ok {w0 w : World} {f : Nat} {v : Value} {rest p r' : List UInt8} (hB : Below w0.heap.size w0 w) (hf : w0.heap.size ≤ f) (hR : w.heap[f]? = some (.cells #[v] 179 (0, 0))) (hv : Sl w0 v rest) (hn : getPiece rest = some (p, r')) :
 Calls Tryz.prog 125 #[.pointer (some ⟨f, 0, none⟩)] w fun e w' => e = .returned (.bool true) ∧ ∃ v', w'.heap[f]? = some (.cells #[v'] 179 (0, 0)) ∧ Sl w0 v' p ∧ Off [f] w w' := by
 have HC := hide (piece_ok hB hf hR hv hn)
 clear hB hR hv hn
 go_enter Tryz.func125, Tryz.ntmps125
 go_wp2_with fail
 refine HC.out.mono ?_
 rintro e w1 ⟨vp, v1, rfl, hp, hR1, h1, hO⟩
 obtain ⟨ao, c, rfl, hc1, hc2⟩ := hp.len
 have k1 : w1.cell? ⟨f, 0, none⟩ = some v1 := by rw [cell_row hR1]; rfl
 have f1 : w1.frozen? ⟨f, 0, none⟩ = false := frozen_row hR1
 have HP := hide hp
 have HR1 := hide hR1
 have HO := hide hO
 clear hp hR1 h1 hO HC
 generalize p.length = L at *
 go_wp2
 go_ret
 exact ⟨rfl, _, heap_set_same _ HR1.out, HP.out, HO.out.setCell _ _ (.inl (by simp))⟩
set_option maxHeartbeats 400000 in
theorem bound_no {w0 w : World} {f : Nat} {v : Value} {rest : List UInt8} (hB : Below w0.heap.size w0 w) (hf : w0.heap.size ≤ f) (hR : w.heap[f]? = some (.cells #[v] 179 (0, 0))) (hv : Sl w0 v rest) (hn : getPiece rest = none) :
 Calls Tryz.prog 125 #[.pointer (some ⟨f, 0, none⟩)] w fun e w' => e = .returned (.bool false) ∧ Off [f] w w' := by
 have HC := hide (piece_no hB hf hR hv hn)
 clear hB hR hv hn
 go_enter Tryz.func125, Tryz.ntmps125
 go_wp2_with fail
 refine HC.out.mono ?_
 rintro e w1 ⟨rfl, hO, v1, hR1⟩
 have k1 : w1.cell? ⟨f, 0, none⟩ = some v1 := by rw [cell_row hR1]; rfl
 have f1 : w1.frozen? ⟨f, 0, none⟩ = false := frozen_row hR1
 have HO := hide hO
 clear hR1 hO HC
 go_wp2
 go_ret
 exact ⟨rfl, HO.out.setCell _ _ (.inl (by simp))⟩

def layI (C : Array Value) (o : Nat) : List Int → Array Value
 | [] => C
 | n :: r => layI (C.setIfInBounds o (icell n)) (o + 1) r
theorem layI_snoc : ∀ (d : List Int) (C : Array Value) (o : Nat) (n : Int), layI C o (d ++ [n]) = (layI C o d).setIfInBounds (o + d.length) (icell n)
 | [], C, o, n => rfl
 | x :: r, C, o, n => by
   show layI (C.setIfInBounds o (icell x)) (o + 1) (r ++ [n]) = _
   rw [layI_snoc r]
   show _ = (layI (C.setIfInBounds o (icell x)) (o + 1) r).setIfInBounds (o + (r.length + 1)) (icell n)
   rw [show o + 1 + r.length = o + (r.length + 1) by omega]
theorem size_layI : ∀ (d : List Int) (C : Array Value) (o : Nat), (layI C o d).size = C.size
 | [], C, o => rfl
 | x :: r, C, o => by
   show (layI (C.setIfInBounds o (icell x)) (o + 1) r).size = _
   rw [size_layI r]
   simp
def ptrs (q o k : Nat) : Array Value := ((List.range k).map fun j => Value.pointer (some ⟨q, o + j, none⟩)).toArray
theorem ptrs_get (q o k j : Nat) (h : j < k) : (ptrs q o k)[j]? = some (.pointer (some ⟨q, o + j, none⟩)) := by simp [ptrs, h]
theorem heap_set_other {w : World} {p : Addr} {u : Value} {k : Nat} (h : k ≠ p.block) : (w.setCell p u).heap[k]? = w.heap[k]? := Below.heap_setCell _ _ _ _ h

theorem getNums_step {k : Nat} {r : List UInt8} {l : List Int} {r' : List UInt8} (h : getNums (k + 1) r = some (l, r')) : ∃ n r1 l1, getNum r = some (n, r1) ∧ getNums k r1 = some (l1, r') ∧ l = n :: l1 := by
 simp only [getNums] at h
 split at h
 · cases h
 · rename_i n r1 h1
   split at h
   · cases h
   · rename_i l2 r2 h2
     simp only [Option.some.injEq, Prod.mk.injEq] at h
     obtain ⟨rfl, rfl⟩ := h
     exact ⟨n, r1, l2, h1, h2, rfl⟩
theorem getNums_fail {k : Nat} {r : List UInt8} (h : getNums (k + 1) r = none) : getNum r = none ∨ ∃ n r1, getNum r = some (n, r1) ∧ getNums k r1 = none := by
 simp only [getNums] at h
 split at h
 · rename_i h1; exact .inl h1
 · rename_i n r1 h1
   split at h
   · rename_i h2; exact .inr ⟨n, r1, h1, h2⟩
   · cases h
structure Into (w : World) (f q g o k : Nat) (C : Array Value) (t : TypeId) : Prop where
 cq : w.heap[q]? = some (.cells C t (0, 0))
 cg : ∃ tg, w.heap[g]? = some (.cells (ptrs q o k) tg (0, 0))
 fq : f ≠ q
 gf : g ≠ f
 gq : g ≠ q
 room : o + k ≤ C.size
 few : k ≤ 100

set_option maxHeartbeats 1000000 in
theorem numbers_ok {w0 w : World} {f q g o k : Nat} {v : Value} {C : Array Value} {t : TypeId} {rest r' : List UInt8} {ns : List Int} (hB : Below w0.heap.size w0 w) (hf : w0.heap.size ≤ f) (hq0 : w0.heap.size ≤ q) (hR : w.heap[f]? = some (.cells #[v] 179 (0, 0))) (hv : Sl w0 v rest)
 (hI : Into w f q g o k C t) (hn : getNums k rest = some (ns, r')) :
 Calls Tryz.prog 126 #[.pointer (some ⟨f, 0, none⟩), .slice (some ⟨g, 0, none⟩) k k] w fun e w' => e = .returned (.bool true) ∧ Off [f, q] w w' ∧ w'.heap[q]? = some (.cells (layI C o ns) t (0, 0)) ∧ ∃ v', w'.heap[f]? = some (.cells #[v'] 179 (0, 0)) ∧ Sl w0 v' r' := by
 have hk := hI.few
 have HI := hide hI
 have HB := hide hB
 have HR := hide hR
 have HV := hide hv
 have HN := hide hn
 clear hI hB hR hv hn
 go_enter Tryz.func126, Tryz.ntmps126
 go_wp2
 go_loopw [11] (fun i wr => ∃ (j : Nat) (d : List Int) (l : List Int) (rj : List UInt8) (vj : Value), j ≤ k ∧ i = .int .i64 j ∧ d.length = j ∧ ns = d ++ l ∧ getNums (k - j) rj = some (l, r') ∧ Off [f, q] w wr ∧ wr.heap[f]? = some (.cells #[vj] 179 (0, 0)) ∧ Sl w0 vj rj ∧ wr.heap[q]? = some (.cells (layI C o d) t (0, 0))) (fun i _ => k - (intOf i).toNat)
 case atStart => exact ⟨0, [], ns, rest, v, by omega, rfl, rfl, rfl, HN.out, Off.refl _ _, HR.out, HV.out, HI.out.cq⟩
 case round =>
  obtain ⟨j, d, l, rj, vj, hj, rfl, hd, hns, hg, hO, hRj, hvj, hq⟩ := hrel
  have hBj : Below w0.heap.size w0 wr := HB.out.trans (hO.below HB.out.size (fun i hi => by simp at hi; rcases hi with rfl | rfl <;> assumption))
  by_cases hlt : j < k
  · rw [show k - j = (k - j - 1) + 1 by omega] at hg
    obtain ⟨n, r1, l1, h1, h2, rfl⟩ := getNums_step hg
    have HC := hide (number_ok hBj hf hRj hvj h1)
    have hgj : wr.cell? ⟨g, j, none⟩ = some (.pointer (some ⟨q, o + j, none⟩)) := by
     obtain ⟨tg, hgg⟩ := HI.out.cg
     have : wr.heap[g]? = _ := (hO.block g (lt_of_heap hgg) (by simp; exact ⟨HI.out.gf, HI.out.gq⟩)).trans hgg
     rw [cell_row this, ptrs_get _ _ _ _ hlt]
    have hcq : ∀ v', (wr.setCell ⟨f, 0, none⟩ v').heap[q]? = some (.cells (layI C o d) t (0, 0)) := fun v' => (heap_set_other (fun e => HI.out.fq e.symm)).trans hq
    have HQ := hide hcq
    have HO := hide hO
    have HRj := hide hRj
    have HNS := hide hns
    have HD := hide hd
    have H2 := hide h2
    have hsq : o + j < (layI C o d).size := by rw [size_layI]; have := HI.out.room; omega
    have HSQ : Hid (∀ v', ∃ u, (wr.setCell ⟨f, 0, none⟩ v').cell? ⟨q, o + j, none⟩ = some u) := fun v' => by
     rw [cell_row (hcq v')]
     exact ⟨_, Array.getElem?_eq_getElem hsq⟩
    clear hg hO hRj hvj hq hns hd hBj hcq h1 h2 hsq
    go_wp2_with fail
    refine HC.out.mono ?_
    rintro e w1 ⟨v1, rfl, rfl, hs1⟩
    obtain ⟨u, hcu⟩ := HSQ.out v1
    have hfu : (wr.setCell ⟨f, 0, none⟩ v1).frozen? ⟨q, o + j, none⟩ = false := frozen_row (HQ.out v1)
    have HO1 : Hid (Off [f, q] w (wr.setCell ⟨f, 0, none⟩ v1)) := HO.out.setCell _ _ (.inl (by simp))
    have HR1 := hide (heap_set_same (o := 0) v1 HRj.out)
    have HQ1 := hide (HQ.out v1)
    have HS1 := hide hs1
    clear hs1 HC HQ HO HRj HSQ
    generalize wr.setCell ⟨f, 0, none⟩ v1 = w1 at *
    go_wp2
    go_roundw
    case rel =>
     refine ⟨j + 1, d ++ [n], l1, r1, v1, by omega, by go_num, by rw [List.length_append, HD.out]; rfl, by rw [HNS.out]; simp, by rw [show k - (j + 1) = k - j - 1 by omega]; exact H2.out, HO1.out.setCell _ _ (.inl (by simp)), ?_, HS1.out, ?_⟩
     · exact (heap_set_other HI.out.fq).trans HR1.out
     · rw [heap_set_same _ HQ1.out, layI_snoc, HD.out]
       rfl
    case measure => simp [intOf]; omega
  · have hjk : j = k := by omega
    subst hjk
    rw [Nat.sub_self] at hg
    simp only [getNums, Option.some.injEq, Prod.mk.injEq] at hg
    obtain ⟨rfl, rfl⟩ := hg
    rw [List.append_nil] at hns
    subst hns
    have HP : Hid (Off [f, q] w wr ∧ wr.heap[q]? = some (.cells (layI C o ns) t (0, 0)) ∧ ∃ v', wr.heap[f]? = some (.cells #[v'] 179 (0, 0)) ∧ Sl w0 v' rj) := ⟨hO, hq, _, hRj, hvj⟩
    clear hO hRj hvj hq hBj hd
    go_wp2
    go_ret
    exact ⟨rfl, HP.out⟩

set_option maxHeartbeats 1000000 in
theorem numbers_no {w0 w : World} {f q g o k : Nat} {v : Value} {C : Array Value} {t : TypeId} {rest : List UInt8} (hB : Below w0.heap.size w0 w) (hf : w0.heap.size ≤ f) (hq0 : w0.heap.size ≤ q) (hR : w.heap[f]? = some (.cells #[v] 179 (0, 0))) (hv : Sl w0 v rest)
 (hI : Into w f q g o k C t) (hn : getNums k rest = none) :
 Calls Tryz.prog 126 #[.pointer (some ⟨f, 0, none⟩), .slice (some ⟨g, 0, none⟩) k k] w fun e w' => e = .returned (.bool false) ∧ Off [f, q] w w' ∧ ∃ C', w'.heap[q]? = some (.cells C' t (0, 0)) ∧ C'.size = C.size := by
 have hk := hI.few
 have HI := hide hI
 have HB := hide hB
 have HR := hide hR
 have HV := hide hv
 have HN := hide hn
 clear hI hB hR hv hn
 go_enter Tryz.func126, Tryz.ntmps126
 go_wp2
 go_loopw [11] (fun i wr => ∃ (j : Nat) (d : List Int) (rj : List UInt8) (vj : Value), j ≤ k ∧ i = .int .i64 j ∧ d.length = j ∧ getNums (k - j) rj = none ∧ Off [f, q] w wr ∧ wr.heap[f]? = some (.cells #[vj] 179 (0, 0)) ∧ Sl w0 vj rj ∧ wr.heap[q]? = some (.cells (layI C o d) t (0, 0))) (fun i _ => k - (intOf i).toNat)
 case atStart => exact ⟨0, [], rest, v, by omega, rfl, rfl, HN.out, Off.refl _ _, HR.out, HV.out, HI.out.cq⟩
 case round =>
  obtain ⟨j, d, rj, vj, hj, rfl, hd, hg, hO, hRj, hvj, hq⟩ := hrel
  have hBj : Below w0.heap.size w0 wr := HB.out.trans (hO.below HB.out.size (fun i hi => by simp at hi; rcases hi with rfl | rfl <;> assumption))
  by_cases hlt : j < k
  · rw [show k - j = (k - j - 1) + 1 by omega] at hg
    have hgj : wr.cell? ⟨g, j, none⟩ = some (.pointer (some ⟨q, o + j, none⟩)) := by
     obtain ⟨tg, hgg⟩ := HI.out.cg
     have : wr.heap[g]? = _ := (hO.block g (lt_of_heap hgg) (by simp; exact ⟨HI.out.gf, HI.out.gq⟩)).trans hgg
     rw [cell_row this, ptrs_get _ _ _ _ hlt]
    rcases getNums_fail hg with h1 | ⟨n, r1, h1, h2⟩
    · have HC := hide (number_no hBj hf hRj hvj h1)
      have HP : Hid (Off [f, q] w wr ∧ ∃ C', wr.heap[q]? = some (.cells C' t (0, 0)) ∧ C'.size = C.size) := ⟨hO, _, hq, size_layI _ _ _⟩
      clear hO hRj hvj hq hBj hd hg h1
      go_wp2_with fail
      refine HC.out.mono ?_
      rintro e w1 ⟨rfl, rfl⟩
      go_wp2
      go_ret
      exact ⟨rfl, HP.out⟩
    · have HC := hide (number_ok hBj hf hRj hvj h1)
      have hcq : ∀ v', (wr.setCell ⟨f, 0, none⟩ v').heap[q]? = some (.cells (layI C o d) t (0, 0)) := fun v' => (heap_set_other (fun e => HI.out.fq e.symm)).trans hq
      have HQ := hide hcq
      have HO := hide hO
      have HRj := hide hRj
      have HD := hide hd
      have H2 := hide h2
      have hsq : o + j < (layI C o d).size := by rw [size_layI]; have := HI.out.room; omega
      have HSQ : Hid (∀ v', ∃ u, (wr.setCell ⟨f, 0, none⟩ v').cell? ⟨q, o + j, none⟩ = some u) := fun v' => by
       rw [cell_row (hcq v')]
       exact ⟨_, Array.getElem?_eq_getElem hsq⟩
      clear hg hO hRj hvj hq hd hBj hcq h1 h2 hsq
      go_wp2_with fail
      refine HC.out.mono ?_
      rintro e w1 ⟨v1, rfl, rfl, hs1⟩
      obtain ⟨u, hcu⟩ := HSQ.out v1
      have hfu : (wr.setCell ⟨f, 0, none⟩ v1).frozen? ⟨q, o + j, none⟩ = false := frozen_row (HQ.out v1)
      have HO1 : Hid (Off [f, q] w (wr.setCell ⟨f, 0, none⟩ v1)) := HO.out.setCell _ _ (.inl (by simp))
      have HR1 := hide (heap_set_same (o := 0) v1 HRj.out)
      have HQ1 := hide (HQ.out v1)
      have HS1 := hide hs1
      clear hs1 HC HQ HO HRj HSQ
      generalize wr.setCell ⟨f, 0, none⟩ v1 = w1 at *
      go_wp2
      go_roundw
      case rel =>
       refine ⟨j + 1, d ++ [n], r1, v1, by omega, by go_num, by rw [List.length_append, HD.out]; rfl, by rw [show k - (j + 1) = k - j - 1 by omega]; exact H2.out, HO1.out.setCell _ _ (.inl (by simp)), ?_, HS1.out, ?_⟩
       · exact (heap_set_other HI.out.fq).trans HR1.out
       · rw [heap_set_same _ HQ1.out, layI_snoc, HD.out]
         rfl
      case measure => simp [intOf]; omega
  · have hjk : j = k := by omega
    subst hjk
    rw [Nat.sub_self] at hg
    simp [getNums] at hg

set_option maxHeartbeats 1000000 in
theorem bytes_ok {w0 w : World} {f q o : Nat} {v : Value} {C : Array Value} {t : TypeId} {rest p r' : List UInt8} (hB : Below w0.heap.size w0 w) (hf : w0.heap.size ≤ f) (hq0 : w0.heap.size ≤ q) (hfq : f ≠ q) (hR : w.heap[f]? = some (.cells #[v] 179 (0, 0))) (hv : Sl w0 v rest)
 (hq : w.heap[q]? = some (.cells C t (0, 0))) (hC : C[o]? = some (.slice none 0 0)) (hn : getPiece rest = some (p, r')) (hlen : p.length ≤ 140737488355328) :
 Calls Tryz.prog 127 #[.pointer (some ⟨f, 0, none⟩), .pointer (some ⟨q, o, none⟩)] w fun e w' => e = .returned (.bool true) ∧ Off [f, q] w w' ∧ (∃ vp, w'.ownsRow w.heap.size 5 1 vp p.length (secCells p) ∧ w'.heap[q]? = some (.cells (C.setIfInBounds o vp) t (0, 0))) ∧ ∃ v', w'.heap[f]? = some (.cells #[v'] 179 (0, 0)) ∧ Sl w0 v' r' := by
 have HC := hide (piece_ok hB hf hR hv hn)
 have HB := hide hB
 have HQ := hide hq
 have hqs := lt_of_heap hq
 have hfs := lt_of_heap hR
 clear hR hv hn hB hq
 go_enter Tryz.func127, Tryz.ntmps127
 go_wp2_with fail
 refine HC.out.mono ?_
 rintro e w1 ⟨vp, v1, rfl, hp, hR1, h1, hO⟩
 have hq1 : w1.heap[q]? = some (.cells C t (0, 0)) := (hO.block q hqs (by simp; exact fun e => hfq e.symm)).trans HQ.out
 have k1 : w1.cell? ⟨q, o, none⟩ = some (.slice none 0 0) := by rw [cell_row hq1]; exact hC
 have hB1 : Below w0.heap.size w0 w1 := HB.out.trans (hO.below HB.out.size (fun i hi => by simp at hi; rw [hi]; exact hf))
 have HP : Hid (Row w1 vp p.length (secCells p)) := hp.below hB1 (Nat.le_refl _)
 obtain ⟨ao, c, rfl, hc1, hc2⟩ := hp.len
 have HW : Hid (w.heap.size ≤ w1.heap.size) := hO.size
 have HLEN : Hid (0 + p.length ≤ 140737488355328) := by show _ ≤ _; omega
 have HLEN1 : Hid ((0 + p.length) * 1 ≤ 140737488355328) := by show _ ≤ _; omega
 have HL : Hid ((secCells p).length = p.length * 1) := by show _ = _; rw [length_secCells]; omega
 have HNIL : Hid (w1.ownsRow w.heap.size 5 1 (.slice none 0 0) 0 []) := World.ownsRow_nil _ _ _ _
 have HAFT : Hid (∀ v2 w2, w2.ownsRow w.heap.size 5 1 v2 (0 + p.length) ([] ++ secCells p) → w1.grownBy w2 (Value.slice none 0 0).ownBlock →
  w2.cell? ⟨q, o, none⟩ = some (.slice none 0 0) ∧ w2.frozen? ⟨q, o, none⟩ = false ∧ Off [f, q] w (w2.setCell ⟨q, o, none⟩ v2) ∧ (w2.setCell ⟨q, o, none⟩ v2).ownsRow w.heap.size 5 1 v2 p.length (secCells p) ∧ (w2.setCell ⟨q, o, none⟩ v2).heap[q]? = some (.cells (C.setIfInBounds o v2) t (0, 0)) ∧ (w2.setCell ⟨q, o, none⟩ v2).heap[f]? = some (.cells #[v1] 179 (0, 0))) := fun v2 w2 ho hg => by
  have b2 : ∀ k, k < w1.heap.size → w2.heap[k]? = w1.heap[k]? := fun k hk => hg.block k hk (by simp [Value.ownBlock])
  have hq2 : w2.heap[q]? = some (.cells C t (0, 0)) := (b2 q (lt_of_heap hq1)).trans hq1
  refine ⟨by rw [cell_row hq2]; exact hC, frozen_row hq2, ?_, ?_, heap_set_same _ hq2, ?_⟩
  · refine Off.setCell ?_ _ _ (.inl (by simp))
    exact (hO.mono (by simp)).grown hg (fun k hk => by simp [Value.ownBlock] at hk)
  · refine owns_stay (by simpa using ho) (fun k hk => heap_set_other (fun e => ?_))
    have e : k = q := e
    subst e
    have := (ho.lt k hk).1
    omega
  · exact (heap_set_other hfq).trans ((b2 f (lt_of_heap hR1)).trans hR1)
 have H1 := hide h1
 clear hp hR1 h1 hO hq1 hB1 HC HB
 go_wp2_with (first
  | (refine wpList_append_row rfl (.tmp 15) (.tmp 16) 36 rfl _ 5 _ 1 1 Tryz.underlying36 Tryz.info5 rfl (by omega) _ _ _ _ _ _ rfl rfl HNIL.out HP.out HL.out (one_secCells _) HLEN1.out HLEN.out HW.out ?_
     intro v2 w2 ho hg
     obtain ⟨kc, kf, r1, r2, r3, r4⟩ := HAFT.out v2 w2 ho hg
     obtain ⟨a2, c2, hv2⟩ := owns_len ho
     rw [Nat.zero_add] at hv2
     have R1 := hide r1
     have R2 := hide r2
     have R3 := hide r3
     have R4 := hide r4
     clear ho hg r1 r2 r3 r4
     subst hv2))
 go_ret
 exact ⟨rfl, R1.out, ⟨_, R2.out, R3.out⟩, _, R4.out, H1.out⟩
set_option maxHeartbeats 1000000 in
theorem bytes_no {w0 w : World} {f q o : Nat} {v : Value} {C : Array Value} {t : TypeId} {rest : List UInt8} (hB : Below w0.heap.size w0 w) (hf : w0.heap.size ≤ f) (hq0 : w0.heap.size ≤ q) (hfq : f ≠ q) (hR : w.heap[f]? = some (.cells #[v] 179 (0, 0))) (hv : Sl w0 v rest)
 (hq : w.heap[q]? = some (.cells C t (0, 0))) (hC : C[o]? = some (.slice none 0 0)) (hn : getPiece rest = none) :
 Calls Tryz.prog 127 #[.pointer (some ⟨f, 0, none⟩), .pointer (some ⟨q, o, none⟩)] w fun e w' => e = .returned (.bool false) ∧ Off [f, q] w w' ∧ ∃ C', w'.heap[q]? = some (.cells C' t (0, 0)) ∧ C'.size = C.size := by
 have HC := hide (piece_no hB hf hR hv hn)
 have hqs := lt_of_heap hq
 have HQ := hide hq
 clear hR hv hn hB hq
 go_enter Tryz.func127, Tryz.ntmps127
 go_wp2_with fail
 refine HC.out.mono ?_
 rintro e w1 ⟨rfl, hO, v1, hR1⟩
 have hq1 : w1.heap[q]? = some (.cells C t (0, 0)) := (hO.block q hqs (by simp; exact fun e => hfq e.symm)).trans HQ.out
 have k1 : w1.cell? ⟨q, o, none⟩ = some (.slice none 0 0) := by rw [cell_row hq1]; exact hC
 have f1 : w1.frozen? ⟨q, o, none⟩ = false := frozen_row hq1
 have HQ1 := hide hq1
 have HO := hide hO
 have hap : ∀ ty, (Builtin.append_ #[36, 36] ty #[.slice none 0 0, .slice none 0 0]).run Tryz.prog w1 = .ok (.slice none 0 0) w1 := fun ty => by
  obtain ⟨i, hi, _⟩ := Tryz.info5'
  exact run_append_nothing w1 36 ty 5 i Tryz.underlying36 hi _ (Src.ofNil w1 Tryz.underlying36 0)
 clear hR1 hO hq1 HC
 go_wp2
 go_ret
 exact ⟨rfl, (HO.out.mono (by simp)).setCell _ _ (.inl (by simp)), _, heap_set_same _ HQ1.out, by simp⟩
end Go.Proofs.YteeembildppgmaaGreat.Enc
namespace Go.Proofs.YteeembildppgmaaGreat.Enc
open Go.RowKit
set_option linter.unusedVariables false
set_option linter.unusedSimpArgs false
theorem take_to {P : Program} {ops : Array Oper} {Q : Exit → Act → World → Prop} {md : Region.Mode} {S : World → Prop} {oi : Oper} {fuel : Nat} {listed : Array Bool} {a : Act} {w : World} (i dst : Nat) (v : Value) (hi : ops[i]? = some oi)
 (hs : Region.noSelect ops = true) (hf : Region.free md ops listed i = true) (hr : (Region.ready md ops listed).contains i = true)
 (hQ : ∀ c a w, Q (.panic c) (a.put oi.dst v) w → Q (.panic c) a w) (hd : oi.dst = some dst) (hw : Region.wanted oi (yielded ops a.tmps) = true) (hy : ∀ w, S w → (execOp a.eval oi).run P w = .ok (.value v) w) (hS : S w)
 (h : wpAnyH P md ops Q S fuel (listed.setIfInBounds i true) (a.put (some dst) v) w) : wpAnyH P md ops Q S (fuel + 1) listed a w :=
 wpAnyH_take hi hs hf hr hQ (.inl ⟨hw, hy⟩) hS (by rw [hd]; exact h)
theorem op_to {P : Program} {ops : Array Oper} {Q : Exit → Act → World → Prop} {oi : Oper} {a : Act} {w : World} {K : Act → World → Prop} {i : Nat} (dst : Nat) (v : Value) (w' : World) (hi : ops[i]? = some oi)
 (hd : oi.dst = some dst) (hw : Region.wanted oi (yielded ops a.tmps) = true) (hy : (execOp a.eval oi).run P w = .ok (.value v) w') (h : K (a.put (some dst) v) w') : wpOp P ops Q i K a w := by
 refine wpOp_step hi (fun K' hK => ?_)
 rw [if_pos hw]
 unfold Oper.wp
 rw [hy, Oper.upon_value, hd]
 exact hK _ _ h
theorem step_to {P : Program} {ops : Array Oper} {Q : Exit → Act → World → Prop} {md : Region.Mode} {S : World → Prop} {oi : Oper} {fuel : Nat} {listed : Array Bool} {a : Act} {w : World} (i dst : Nat) (v : Value) (w' : World) (hi : ops[i]? = some oi)
 (hr : Region.ready md ops listed = [i]) (hd : oi.dst = some dst) (hw : Region.wanted oi (yielded ops a.tmps) = true) (hy : (execOp a.eval oi).run P w = .ok (.value v) w') (hS : S w')
 (h : wpAnyH P md ops Q S fuel (listed.setIfInBounds i true) (a.put (some dst) v) w') : wpAnyH P md ops Q S (fuel + 1) listed a w := by
 refine wpAnyH_ready hr (by simp) (AllReadyH.cons hi (fun K hK => ?_) AllReadyH.nil)
 rw [if_pos hw]
 unfold Oper.wp
 rw [hy, Oper.upon_value, hd]
 exact hK.out _ _ hS (fun _ => h)
theorem step_by {P : Program} {ops : Array Oper} {Q : Exit → Act → World → Prop} {md : Region.Mode} {S : World → Prop} {oi : Oper} {fuel : Nat} {listed : Array Bool} {a : Act} {w : World} (i : Nat) (hi : ops[i]? = some oi)
 (hr : Region.ready md ops listed = [i])
 (h : ∀ K : Act → World → Prop, (∀ a' w', S w' → wpAnyH P md ops Q S fuel (listed.setIfInBounds i true) a' w' → K a' w') → if Region.wanted oi (yielded ops a.tmps) = true then Oper.wp P oi a w K Q else K (a.put oi.dst undef) w) :
 wpAnyH P md ops Q S (fuel + 1) listed a w := by
 refine wpAnyH_ready hr (by simp) (AllReadyH.cons hi (fun K hK => ?_) AllReadyH.nil)
 exact h K (fun a' w' hS hw => hK.out _ _ hS (fun _ => hw))
theorem step_store_to {P : Program} {ops : Array Oper} {Q : Exit → Act → World → Prop} {md : Region.Mode} {S : World → Prop} {o : Oper} {fuel : Nat} {listed : Array Bool} {a : Act} {w : World} (j : Nat) (w' : World) (hj : ops[j]? = some o)
 (hr : Region.ready md ops listed = [j]) (hd : o.dst = none) (hw : Region.wanted o (yielded ops a.tmps) = true) (t : TypeId) (x y : Operand) (hop : o.op = Op.store t x y) (px v : Value) (hx : a.eval x = px) (hy : a.eval y = v)
 (hrun : (Instr.storeAt t px v).run P w = .ok () w') (hS : S w') (h : wpAnyH P md ops Q S fuel (listed.setIfInBounds j true) a w') : wpAnyH P md ops Q S (fuel + 1) listed a w := by
 refine step_by j hj hr (fun K hK => ?_)
 rw [if_pos hw]
 unfold Oper.wp execOp
 simp only [hop, hx, hy, Sem.run_bind, hrun, Result.andThen_ok, Sem.run_pure, Oper.upon_skip]
 rw [hd]
 exact hK _ _ hS h
theorem buildSlice_op (ρ : Operand → Value) (o : Oper) (t : TypeId) (len j : Nat) (x : Operand) (ho : o.op = .buildSlice t len #[(j, x)]) (v : Value) (hx : ρ x = v) :
 execOp ρ o = (do pure (Next.value (← Instr.buildSlice t len #[(j, v)]))) := by
 unfold execOp
 simp [ho, hx]
theorem step_append_row {P : Program} {ops : Array Oper} {o : Oper} {a : Act} {w : World} {K : Act → World → Prop} {Q : Exit → Act → World → Prop} {E : Prop}
 (hg : o.guard = none) (s x : Operand) (t : TypeId) (hop : o.op = Op.call { callee := Callee.builtin Builtin.append, args := #[s, x], argTypes := #[t, t] })
 (base : Nat) (e : TypeId) (z : Value) (size bytes : Nat) (ht : P.underlying t = some (.slice e)) (hi : (P.info? e).map (fun i => (i.zero, i.size, i.bytes)) = some (some z, size, bytes)) (hzs : z.cells.size = size) (hsz : 0 < size)
 (v : Value) (n : Nat) (xs : List Value) (y : Value) (m : Nat) (news : List Value) (hs : a.eval s = v) (hy : a.eval x = y) (hown : w.ownsRow base e size v n xs)
 (hx : Row w y m news) (hl : news.length = m * size) (h1 : ∀ u ∈ news, u.oneCell' = true)
 (hbytes : (n + m) * bytes ≤ 140737488355328) (h63 : n + m ≤ 140737488355328) (hbase : base ≤ w.heap.size)
 (hK : ∀ v' w', w'.ownsRow base e size v' (n + m) (xs ++ news) → w.grownBy w' v.ownBlock → K (a.put o.dst v') w') :
 if Region.wanted o (yielded ops a.tmps) = true then Oper.wp P o a w K Q else E := by
 have hw : Region.wanted o (yielded ops a.tmps) = true := by simp [Region.wanted, hg]
 rw [if_pos hw]
 obtain ⟨v', w', hrun, r1, r2⟩ := run_append_row (P := P) w base t o.type e z size bytes ht hi hzs hsz v n xs hown y m news hx hl h1 hbytes h63 hbase
 unfold Oper.wp
 simp [execOp, hop, resolve, invoke, builtin, hs, hy, hrun, Result.andThen]
 exact hK v' w' r1 r2
theorem step_append_to {P : Program} {ops : Array Oper} {Q : Exit → Act → World → Prop} {md : Region.Mode} {S : World → Prop} {o : Oper} {fuel : Nat} {listed : Array Bool} {a : Act} {w : World} (j dst : Nat) (hj : ops[j]? = some o)
 (hr : Region.ready md ops listed = [j]) (hd : o.dst = some dst)
 (hg : o.guard = none) (s x : Operand) (t : TypeId) (hop : o.op = Op.call { callee := Callee.builtin Builtin.append, args := #[s, x], argTypes := #[t, t] })
 (base : Nat) (e : TypeId) (z : Value) (size bytes : Nat) (ht : P.underlying t = some (.slice e)) (hi : (P.info? e).map (fun i => (i.zero, i.size, i.bytes)) = some (some z, size, bytes)) (hzs : z.cells.size = size) (hsz : 0 < size)
 (v : Value) (n : Nat) (xs : List Value) (y : Value) (m : Nat) (news : List Value) (hs : a.eval s = v) (hy : a.eval x = y) (hown : w.ownsRow base e size v n xs)
 (hx : Row w y m news) (hl : news.length = m * size) (h1 : ∀ u ∈ news, u.oneCell' = true)
 (hbytes : (n + m) * bytes ≤ 140737488355328) (h63 : n + m ≤ 140737488355328) (hbase : base ≤ w.heap.size)
 (hK : ∀ v' w', w'.ownsRow base e size v' (n + m) (xs ++ news) → w.grownBy w' v.ownBlock → S w' ∧ wpAnyH P md ops Q S fuel (listed.setIfInBounds j true) (a.put (some dst) v') w') :
 wpAnyH P md ops Q S (fuel + 1) listed a w :=
 step_by j hj hr (fun _ hK' => step_append_row hg s x t hop base e z size bytes ht hi hzs hsz v n xs y m news hs hy hown hx hl h1 hbytes h63 hbase
  (fun v' w' r1 r2 => hK' _ _ (hK v' w' r1 r2).1 (by rw [hd]; exact (hK v' w' r1 r2).2)))
end Go.Proofs.YteeembildppgmaaGreat.Enc
