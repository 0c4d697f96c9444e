/- A slice of records that came in. -/
import Derived.Test.YtmfiafdhflaafaaOpen
namespace Go.Proofs.Ytmfiafdhflaafaa
open Go.ChangeShapes Go.WideShapes Go.ChangeAt Go.RowKit
set_option linter.unusedVariables false
set_option linter.unusedSimpArgs false

def RecsVal (w : World) (v : Value) (Rs : List Rc) : Prop :=
  ∃ ao c, v = .slice ao Rs.length c ∧ Rs.length ≤ c ∧ c ≤ maxLen ∧ ∀ j, j < Rs.length → ∃ (g o : Nat) (C : List Value), ao = some ⟨g, o, none⟩ ∧ C.length = 11 ∧ w.rangeAt g (o + j * 11) C ∧ RecVal w (.agg C.toArray) (Rs.getD j Rc.zero)
theorem RecsVal.len {w : World} {v : Value} {Rs : List Rc} (h : RecsVal w v Rs) : ∃ ao c, v = .slice ao Rs.length c ∧ Rs.length ≤ c ∧ c ≤ maxLen := let ⟨ao, c, e, h1, h2, _⟩ := h; ⟨ao, c, e, h1, h2⟩
theorem choose_list {p : Nat → Rc → Prop} : ∀ (n : Nat), (∀ k, k < n → ∃ R, p k R) → ∃ Rs : List Rc, Rs.length = n ∧ ∀ k, k < n → p k (Rs.getD k Rc.zero)
  | 0, _ => ⟨[], rfl, fun k hk => absurd hk (Nat.not_lt_zero _)⟩
  | n + 1, h => by
    obtain ⟨Rs, hl, hp⟩ := choose_list n (fun k hk => h k (by omega))
    obtain ⟨R, hR⟩ := h n (by omega)
    refine ⟨Rs ++ [R], by simp [hl], fun k hk => ?_⟩
    by_cases e : k < n
    · have := hp k e
      simp only [List.getD_eq_getElem?_getD] at this ⊢
      rwa [List.getElem?_append_left (by omega)]
    · have e : k = n := by omega
      subst e
      simp only [List.getD_eq_getElem?_getD]
      rw [List.getElem?_append_right (by omega), hl]
      simpa using hR
theorem recs_of {H : Type} {enc : TypeId × Value → H} {W : World} {held : Bool} {fuel : Nat} {v : Value} {x : DataW H × List MemPlace}
    (h : DataW.trod enc Try.prog W 0 (fun _ => true) held fuel 22 [v] = some x) :
    ∃ Rs, RecsVal W v Rs ∧ ∀ k, k < Rs.length → (Rs.getD k Rc.zero).wf ∧ (Rs.getD k Rc.zero).size ≤ 96 + 24 * Rows.uptoBulk x.1 := by
  rcases Deep.open_slice Try.underlying22 h with ⟨hcs, _⟩ | ⟨a', len', cap', m, n, D, Pl, hcs, hb, hl, hm, hmm, hxx, hx⟩
  · simp at hcs
    subst hcs
    exact ⟨[], ⟨none, 0, rfl, Nat.le_refl _, Nat.zero_le _, fun j hj => absurd hj (Nat.not_lt_zero _)⟩, fun k hk => absurd hk (Nat.not_lt_zero _)⟩
  · simp at hcs
    subst hcs
    simp only [if_true] at hmm
    subst hmm
    have c28 : Try.prog.cellsOf 28 = 11 := by kernel_rfl
    have key : ∀ k, k < len' → ∃ R : Rc, (∃ C : List Value, C.length = 11 ∧ (∀ j u, C[j]? = some u → W.cell? ((a'.add (k * 11)).add j) = some u) ∧ RecVal W (.agg C.toArray) R) ∧ R.wf ∧ R.size ≤ 96 + 24 * Rows.uptoBulk x.1 := fun k hk => by
      obtain ⟨cs, hc, ht⟩ := hx k (by omega)
      rw [c28] at hc
      obtain ⟨_, hlen, hcell⟩ := World.cells?_some hc
      obtain ⟨R, h1, h2, h3⟩ := rec_of ht
      refine ⟨R, ⟨cs, hlen, fun j u hu => ?_, h1⟩, h2, ?_⟩
      · have hj := (List.getElem?_eq_some_iff.1 hu).1
        have := hcell j (by omega)
        rw [this]
        exact hu
      · have hx1 : x.1 = _ := congrArg Prod.fst hxx
        have hd : Rows.uptoBulk (D k) ≤ Rows.uptoBulk x.1 := by
          rw [hx1]
          have := bulk_part (d := D k) (l := (List.range len').map D) (List.mem_map.2 ⟨k, List.mem_range.2 hk, rfl⟩)
          simp only [Rows.uptoBulk]
          omega
        have h3 : R.size ≤ 96 + 24 * Rows.uptoBulk (D k) := h3
        omega
    obtain ⟨Rs, hRl, hR⟩ := choose_list len' key
    obtain ⟨b, o, sp⟩ := a'
    refine ⟨Rs, ⟨_, _, by rw [hRl], by rw [hRl]; exact hl, hm, fun j hj => ?_⟩, fun k hk => (hR k (by omega)).2⟩
    have hj' : j < len' := by omega
    obtain ⟨C, hC, hcell, hV⟩ := (hR j hj').1
    have hsp : sp = none := by
      obtain ⟨⟨C0, hC0, hcell0, _⟩, _⟩ := hR 0 (by omega)
      match C0, hC0 with
      | u :: r, _ =>
        have := hcell0 0 u rfl
        exact spot_of (j := 0) (v := u) (by simpa [Addr.add] using this) rfl
    subst hsp
    refine ⟨b, o, C, rfl, hC, fun i u hu => ?_, hV⟩
    have := hcell i u hu
    rwa [Addr.add_mid, Addr.add_mid] at this
theorem recs_arg {H : Type} {enc : TypeId × Value → H} {W : World} {held : Bool} {base : Nat} {v : Value} {d : DataW H} {p : List MemPlace} (hv : Value.okWide Try.prog W .any base 22 v) (h : DataW.Trod enc Try.prog W 0 (fun _ => true) held 22 v d p) :
    ∃ Rs, RecsVal W v Rs ∧ ∀ k, k < Rs.length → (Rs.getD k Rc.zero).wf ∧ (Rs.getD k Rc.zero).size ≤ 96 + 24 * Rows.uptoBulk d := by
  obtain ⟨a, len, cap, rfl⟩ := okWide_slice Try.underlying22 hv
  obtain ⟨fuel, hf⟩ := h
  exact recs_of hf
/-- The eleven cells of a record at a place in memory. -/
structure CellsAt (W : World) (g o : Nat) (R : Rc) (ab : Option Addr) (cb : Nat) (aa : Option Addr) (ca : Nat) (at' : Option Addr) (ct : Nat) (ad : Option Addr) (cd : Nat) : Prop where
  c0 : W.cell? ⟨g, o, none⟩ = some (.int .i64 R.kind)
  c1 : W.cell? ⟨g, o + 1, none⟩ = some (.int .i64 R.txn)
  c2 : W.cell? ⟨g, o + 2, none⟩ = some (.int .i64 R.prev)
  c3 : W.cell? ⟨g, o + 3, none⟩ = some (.int .i64 R.next)
  c4 : W.cell? ⟨g, o + 4, none⟩ = some (.int .i64 R.page)
  c5 : W.cell? ⟨g, o + 5, none⟩ = some (.int .i64 R.off)
  c6 : W.cell? ⟨g, o + 6, none⟩ = some (.slice ab R.before.length cb)
  c7 : W.cell? ⟨g, o + 7, none⟩ = some (.slice aa R.after.length ca)
  c8 : W.cell? ⟨g, o + 8, none⟩ = some (.slice at' R.txns.length ct)
  c9 : W.cell? ⟨g, o + 9, none⟩ = some (.slice ad R.dirty.length cd)
  c10 : W.cell? ⟨g, o + 10, none⟩ = some (.int .i64 R.count)
theorem RecsVal.at {w : World} {ao : Option Addr} {n c j : Nat} {Rs : List Rc} (h : RecsVal w (.slice ao n c) Rs) (hj : j < Rs.length) :
    ∃ g o R ab cb aa ca at' ct ad cd, Rs.getD j Rc.zero = R ∧ ao = some ⟨g, o, none⟩ ∧ RecVal w (.agg #[.int .i64 R.kind, .int .i64 R.txn, .int .i64 R.prev, .int .i64 R.next, .int .i64 R.page, .int .i64 R.off, .slice ab R.before.length cb, .slice aa R.after.length ca, .slice at' R.txns.length ct, .slice ad R.dirty.length cd, .int .i64 R.count]) R ∧ (∀ W : World, Below w.heap.size w W → CellsAt W g (o + j * 11) R ab cb aa ca at' ct ad cd) ∧
      ∀ W : World, Below w.heap.size w W → (do pure (Next.value (← Instr.loadAt 28 (.pointer (some ⟨g, o + j * 11, none⟩)))) : Sem Next).run Try.prog W = .ok (.value (.agg #[.int .i64 R.kind, .int .i64 R.txn, .int .i64 R.prev, .int .i64 R.next, .int .i64 R.page, .int .i64 R.off, .slice ab R.before.length cb, .slice aa R.after.length ca, .slice at' R.txns.length ct, .slice ad R.dirty.length cd, .int .i64 R.count])) W := by
  obtain ⟨ao', c', e, _, _, hc⟩ := h
  injection e with e1 e2 e3
  subst e1 e3
  obtain ⟨g, o, C, rfl, hC, hr, hV⟩ := hc j hj
  obtain ⟨R, hR⟩ : ∃ R, Rs.getD j Rc.zero = R := ⟨_, rfl⟩
  rw [hR] at hV
  have hV' := hV
  obtain ⟨vb, va, vt, vd, ev, h1, h2, h3, h4⟩ := hV
  obtain ⟨ab, cb, rfl, _⟩ := Sl.len h1
  obtain ⟨aa, ca, rfl, _⟩ := Sl.len h2
  obtain ⟨at', ct, rfl, _⟩ := Row.len h3
  obtain ⟨ad, cd, rfl, _⟩ := Row.len h4
  have eC : C = [.int .i64 R.kind, .int .i64 R.txn, .int .i64 R.prev, .int .i64 R.next, .int .i64 R.page, .int .i64 R.off, .slice ab R.before.length cb, .slice aa R.after.length ca, .slice at' R.txns.length ct, .slice ad R.dirty.length cd, .int .i64 R.count] := by
    unfold recCells at ev
    injection ev with ev
    have := congrArg Array.toList ev
    simpa using this
  subst eC
  refine ⟨g, o, R, ab, cb, aa, ca, at', ct, ad, cd, hR, rfl, hV', fun W hW => ?_, fun W hW => ?_⟩
  · have hr' := rangeAt_below hr hW (Nat.le_refl _)
    exact ⟨hr' 0 _ rfl, hr' 1 _ rfl, hr' 2 _ rfl, hr' 3 _ rfl, hr' 4 _ rfl, hr' 5 _ rfl, hr' 6 _ rfl, hr' 7 _ rfl, hr' 8 _ rfl, hr' 9 _ rfl, hr' 10 _ rfl⟩
  · have hi : (Try.prog.info? 28).map (·.size) = some 11 := by kernel_rfl
    rw [Sem.run_bind, run_loadAt_mid W g (o + j * 11) 28 _ _ (rangeAt_below hr hW (Nat.le_refl _)) Try.underlying28 rfl hi]
    rfl
end Go.Proofs.Ytmfiafdhflaafaa
