/- SortFunc where there is nothing to sort. -/
import Derived.Test.YtpjppolbkdnkaaaAnalyze
import Derived.Shelf.SlSortCmp.NoneTotal
namespace Go.Proofs.Ytpjppolbkdnkaaa
open Go.RowKit Go.Shelf
set_option linter.unusedVariables false
set_option linter.unusedSimpArgs false

theorem sort_none (p : Option Addr) (cap : Nat) (w : World) : Calls Try.prog 21 #[.slice p 0 cap, .func (.func 22) #[] #[]] w fun e w' => e = .returned (.tuple #[]) ∧ w' = w := by
  have hcon := AnyF.slices_SortFunc_none { Try.sortD with } p cap (.func (.func 22) #[] #[]) w
  change Calls Try.prog 21 _ _ _ at hcon
  exact hcon
theorem sortT_none (p : Option Addr) (cap : Nat) (w : World) : Calls Try.prog 47 #[.slice p 0 cap, .func (.func 26) #[] #[]] w fun e w' => e = .returned (.tuple #[]) ∧ w' = w := by
  have hcon := AnyF.slices_SortFunc_none { Try.sortT with } p cap (.func (.func 26) #[] #[]) w
  change Calls Try.prog 47 _ _ _ at hcon
  exact hcon
theorem own_len' {w : World} {base : Nat} {e : TypeId} {size n : Nat} {v : Value} {xs : List Value} (h : w.ownsRow base e size v n xs) : ∃ ao c, v = .slice ao n c := by
  rcases h.2 with ⟨h1, h2⟩ | ⟨g, cap, cur, h1, _⟩
  · exact ⟨none, 0, by rw [h2]; exact h1⟩
  · exact ⟨_, _, h1⟩
theorem sortT_all {base : Nat} (v : Value) (ss : List Tx) (w : World) (hrow : w.ownsRow base 47 3 v ss.length (txRow ss)) (h12 : ss.length ≤ 12) :
    Calls Try.prog 47 #[v, .func (.func 26) #[] #[]] w fun e w' => e = .returned (.tuple #[]) ∧ ∃ (ao : Option Addr) (c : Nat) (d : List Tx), v = .slice ao d.length c ∧ d.length = ss.length ∧ d.Perm ss ∧ d.Pairwise (fun x y => x.id ≤ y.id) ∧ TxsAt w' ao d ∧ Off v.ownBlock.toList w w' := by
  haveI : Inhabited Tx := ⟨Tx.zero⟩
  by_cases h0 : ss.length = 0
  · obtain ⟨ao, c, rfl⟩ := own_len' hrow
    obtain rfl := List.length_eq_zero_iff.1 h0
    refine (sortT_none ao c w).mono ?_
    rintro e w' ⟨rfl, rfl⟩
    exact ⟨rfl, ao, c, [], rfl, rfl, List.Perm.refl _, List.Pairwise.nil, fun i x hx => by simp at hx, Off.refl _ _⟩
  · obtain ⟨g, cap, cur, rfl, hbase, hg, hr1, hr2, hr3, hr4⟩ := own_some hrow h0
    have hlt : g < w.heap.size := (Array.getElem?_eq_some_iff.1 hg).1
    have hs := sortT_any g cap ss.toArray w (holdsT_of_owns hg hr4) hlt (by simpa using h12)
    have hsz : ss.toArray.size = ss.length := by simp
    rw [hsz] at hs
    refine hs.mono ?_
    rintro e w' ⟨rfl, d, hp, hd, hpw, hH, hO⟩
    have hl : ss.length = d.toList.length := hd.symm.trans Array.length_toList.symm
    exact ⟨rfl, _, cap, d.toList, by rw [hl], hl.symm, by simpa using hp, hpw, txs_of_holds (Nat.lt_of_lt_of_le hlt hO.size) hH, by simpa [Value.ownBlock] using hO⟩
theorem sort_all {base : Nat} (v : Value) (ds : List (Int × Int)) (w : World) (hrow : w.ownsRow base 36 2 v ds.length (dirtRow ds)) (h12 : ds.length ≤ 12) (hin : ∀ x ∈ ds, In64 x.1 ∧ In64 x.2) :
    Calls Try.prog 21 #[v, .func (.func 22) #[] #[]] w fun e w' => e = .returned (.tuple #[]) ∧ ∃ (ao : Option Addr) (c : Nat) (d : List (Int × Int)), v = .slice ao d.length c ∧ d.length = ds.length ∧ d.Perm ds ∧ d.Pairwise (fun x y => x.1 ≤ y.1) ∧ DirtsAt w' ao d ∧ Off v.ownBlock.toList w w' := by
  by_cases h0 : ds.length = 0
  · obtain ⟨ao, c, rfl⟩ := own_len' hrow
    obtain rfl := List.length_eq_zero_iff.1 h0
    refine (sort_none ao c w).mono ?_
    rintro e w' ⟨rfl, rfl⟩
    exact ⟨rfl, ao, c, [], rfl, rfl, List.Perm.refl _, List.Pairwise.nil, ⟨by simp, fun i x hx => by simp at hx⟩, Off.refl _ _⟩
  · obtain ⟨g, cap, cur, rfl, hbase, hg, hr1, hr2, hr3, hr4⟩ := own_some hrow h0
    have hlt : g < w.heap.size := (Array.getElem?_eq_some_iff.1 hg).1
    have hs := sort_any g cap ds.toArray w (holdsD_of_owns hg hr4) hlt (by simpa using h12)
    have hsz : ds.toArray.size = ds.length := by simp
    rw [hsz] at hs
    refine hs.mono ?_
    rintro e w' ⟨rfl, d, hp, hd, hpw, hH, hO⟩
    have hl : ds.length = d.toList.length := hd.symm.trans Array.length_toList.symm
    have hp' : d.toList.Perm ds := by simpa using hp
    exact ⟨rfl, _, cap, d.toList, by rw [hl], hl.symm, hp', hpw, dirts_of_holds (by rw [← Array.length_toList]; omega) (fun x hx => hin x (hp'.mem_iff.1 hx)) (Nat.lt_of_lt_of_le hlt hO.size) hH, by simpa [Value.ownBlock] using hO⟩
set_option maxHeartbeats 2000000 in
set_option maxRecDepth 100000 in
theorem sortedT_all (Bm b nn : Nat) (f : Int → Option Tx) (w : World) (hBm : w.heap[Bm]? = some (.cells #[.map (some b)] 67 (0, 0))) (h : MapT w b nn f) (hnn : nn ≤ 1000000) (h12 : ∀ ss, ValsT f ss → ss.length ≤ 12) :
    Calls Try.prog 24 #[.func (.func 48) #[] #[.pointer (some ⟨Bm, 0, none⟩)], .func (.func 26) #[] #[]] w fun e w' => ∃ (ao : Option Addr) (c : Nat) (d : List Tx), e = .returned (.slice ao d.length c) ∧ TxnsOf f d ∧ TxsAt w' ao d ∧ Below w.heap.size w w' := by
  have HC := hide (collectT_any Bm b nn f w hBm h hnn)
  clear hBm h
  go_enter Try.func24, Try.ntmps24
  go_wp2_with (first
    | (go_at_call 46; refine HC.out.mono ?_; rintro e x1 ⟨v, ss, rfl, hV, hrow, hb⟩
       obtain ⟨ao, c, rfl⟩ := own_len' hrow
       have HS := hide (sortT_all _ ss x1 hrow (h12 ss hV))
       have HV := hide (And.intro hV (And.intro hrow hb))
       clear hrow hV hb)
    | (go_at_call 47; refine HS.out.mono ?_; rintro e x2 ⟨rfl, ao', c', d, hv, hl, hp, hpw, hT, hO⟩
       injection hv with q1 q2 q3
       subst q1
       have H2 := hide (And.intro hl (And.intro hp (And.intro hpw (And.intro hT hO))))
       clear hl hp hpw hT hO q2 q3))
  go_ret
  obtain ⟨hl, hp, hpw, hT, hO⟩ := H2.out
  obtain ⟨hV, hrow, hb⟩ := HV.out
  refine ⟨ao, c, d, by rw [hl]; rfl, ⟨ss, hV, hp, hpw⟩, hT, ?_⟩
  exact hb.trans (hO.below (B := w.heap.size) hb.size (fun k hk => (hrow.lt k (by simpa using hk)).1))
end Go.Proofs.Ytpjppolbkdnkaaa
