/- The law's own example, on lists. -/
import Derived.Test.YtpjppolbkdnkaaaOne
namespace Go.Proofs.Ytpjppolbkdnkaaa
open Go.RowKit
set_option linter.unusedVariables false
set_option linter.unusedSimpArgs false

def aL1 : Ln := { Ln.zero with lsn := 1, kind := 1, txn := 7 }
def aL2 (s t : Sv) : Ln := { Ln.zero with lsn := 40, kind := 2, txn := 7, prev := 1, page := 2, sb := s, sa := t }
theorem aw_T (s t : Sv) (k : Int) : (anaOf [aL1, aL2 s t]).T k = if k = 7 then some ⟨7, 40, 1⟩ else none := by
  simp [anaOf, learnN, learn1, follow1, aL1, aL2, Ln.zero, updT, seenT, noTx]
  split <;> simp_all
theorem aw_F (s t : Sv) (k : Int) : (anaOf [aL1, aL2 s t]).F k = if k = 2 then some 40 else none := by
  simp [anaOf, learnN, learn1, follow1, aL1, aL2, Ln.zero, updI, noMap, Ln.changes]
theorem aw_C (s t : Sv) : (anaOf [aL1, aL2 s t]).C = 0 := by
  simp [anaOf, learnN, learn1, follow1, aL1, aL2, Ln.zero]
theorem nodup_one {l : List Int} {a : Int} (hn : l.Nodup) (h : ∀ x ∈ l, x = a) (ha : a ∈ l) : l = [a] := by
  match l, hn, h, ha with
  | [], _, _, ha => cases ha
  | [x], _, h, _ => rw [h x (by simp)]
  | x :: y :: r, hn, h, _ =>
    have h1 := h x (by simp)
    have h2 := h y (by simp)
    simp [h1, h2] at hn
theorem aw_vals (s t : Sv) (ss : List Tx) (h : ValsT (anaOf [aL1, aL2 s t]).T ss) : ss = [⟨7, 40, 1⟩] := by
  obtain ⟨ks, h1, h2, h3, h4⟩ := h
  have h5 : ks = [7] := by
    refine nodup_one h1 (fun k hk => ?_) (h4 7 (by simp [In64]) (by rw [aw_T]; simp))
    have : (anaOf [aL1, aL2 s t]).T k ∈ ks.map (anaOf [aL1, aL2 s t]).T := List.mem_map_of_mem hk
    rw [h2] at this
    obtain ⟨z, _, hz⟩ := List.mem_map.1 this
    rw [aw_T] at hz
    by_cases e : k = 7
    · exact e
    · rw [if_neg e] at hz; cases hz
  subst h5
  match ss, h2 with
  | [], h2 => simp at h2
  | [x], h2 =>
    simp only [List.map_cons, List.map_nil, aw_T] at h2
    simp at h2
    rw [h2]
  | x :: y :: r, h2 => simp at h2
theorem aw_ts (s t : Sv) (ts : List Tx) (h : TxnsOf (anaOf [aL1, aL2 s t]).T ts) : ts = [⟨7, 40, 1⟩] := by
  obtain ⟨ss, h1, h2, _⟩ := h
  have := aw_vals s t ss h1
  subst this
  exact List.perm_singleton.1 h2
theorem aw_ents (s t : Sv) (ds : List (Int × Int)) (h : EntsD (anaOf [aL1, aL2 s t]).F ds) : ds = [(2, 40)] := by
  obtain ⟨h1, h2, h3⟩ := h
  have hm : ∀ x ∈ ds, x = (2, 40) := fun x hx => by
    have := (h2 x hx).2
    rw [aw_F] at this
    by_cases e : x.1 = 2
    · rw [if_pos e] at this
      injection this with this
      exact Prod.ext e this.symm
    · rw [if_neg e] at this; cases this
  have hi := h3 2 40 (by simp [In64]) (by rw [aw_F]; rfl)
  match ds, h1, hm, hi with
  | [], _, _, hi => cases hi
  | [x], _, hm, _ => rw [hm x (by simp)]
  | x :: y :: r, h1, hm, _ =>
    have e1 := hm x (by simp)
    have e2 := hm y (by simp)
    simp [e1, e2] at h1
theorem aw_ds (s t : Sv) (ds : List (Int × Int)) (h : DirtOf (anaOf [aL1, aL2 s t]).F ds) : ds = [(2, 40)] := aw_ents s t ds h.1
theorem aw_redo (s t : Sv) : redoOf Ask.none [(2, 40)] [aL1, aL2 s t] = [40] := by
  simp [redoOf, againN, again1, aL1, aL2, Ln.zero, soil, soil1, updI, noMap, Ln.changes, Ask.none]
theorem aw_next (s t : Sv) : nextOf [aL1, aL2 s t] 7 = 40 := by
  simp [nextOf, aL1, aL2, Ln.zero]
theorem aw_rises (s t : Sv) : Rises [aL1, aL2 s t] := by
  intro i j x y hx hy hij
  match i, j with
  | 0, 1 => simp at hx hy; rw [← hx, ← hy]; simp [aL1, aL2, Ln.zero]
  | 0, 0 => omega
  | 1, 1 => omega
  | 1, 0 => omega
  | 0, j + 2 => simp at hy
  | 1, j + 2 => simp at hy
  | i + 2, j => simp at hx
theorem aw_undo (s t : Sv) (w : World) (R : Nat) (lg : Sv) (bsOf : Ln → List Value) (O' : List Ln) (K' : List (Nat × Obj))
    (h : Reach [aL1, aL2 s t] bsOf (hpOne w R lg).popL (hpOne w R lg).fixL (loseN (hpOne w R lg).pushL ([], []) [⟨7, 40, 1⟩]).1 (loseN (hpOne w R lg).pushL ([], []) [⟨7, 40, 1⟩]).2 [] [] O' K') :
    ∃ q, O' = [clrLn (aL2 s t) q, endLn 7] := by
  have h := h.run (Run.done _ _)
  have e : loseN (hpOne w R lg).pushL ([], []) [⟨7, 40, 1⟩] = ([⟨7, 40⟩], []) := by simp [loseN, lose1, hpOne]
  rw [e] at h
  simp only at h
  have g1 : aL1.goesOn = 0 := by simp [Ln.goesOn, aL1, Ln.zero]
  have g2 : (aL2 s t).goesOn = 1 := by simp [Ln.goesOn, aL2, Ln.zero]
  have k1 : aL1.lsn = 1 := rfl
  have k2 : (aL2 s t).lsn = 40 := rfl
  have m1 : aL1.kind = 1 := rfl
  have m2 : (aL2 s t).kind = 2 := rfl
  match h.cons with
  | ⟨H1, O1, K1, hb, h⟩ =>
    cases hb using BackTo.ind with
    | no hno => exact absurd k2 (hno _ (by simp))
    | stop r hr hl hn O1 K1 hc =>
      exfalso
      simp at hr hl
      rcases hr with rfl | rfl
      · rw [k1] at hl; omega
      · rw [g2] at hn; simp at hn
    | on r hr hl hn O1 K1 hc =>
      simp at hr hl
      rcases hr with rfl | rfl
      · rw [k1] at hl; omega
      · rw [g2] at h
        cases hc using Comp.ind with
        | not hk => exact absurd m2 hk
        | upd hk g c cur ht =>
          have h : Run [aL1, aL2 s t] bsOf (hpOne w R lg).popL (hpOne w R lg).fixL [⟨7, 1⟩] ([] ++ [clrLn (aL2 s t) ⟨some ⟨g, 0, none⟩, (bsOf (aL2 s t)).length, c⟩]) _ O' K' := h
          match h.cons with
          | ⟨H1, O1, K1, hb, h⟩ =>
            cases hb using BackTo.ind with
            | no hno => exact absurd k1 (hno _ (by simp))
            | stop r hr hl hn O1 K1 hc =>
              simp at hr hl
              rcases hr with rfl | rfl
              · cases hc using Comp.ind with
                | upd hk => rw [m1] at hk; omega
                | not hk =>
                  have h : Run [aL1, aL2 s t] bsOf (hpOne w R lg).popL (hpOne w R lg).fixL [] _ _ O' K' := h
                  match h.none with
                  | ⟨e1, _⟩ => exact ⟨_, e1⟩
              · rw [k2] at hl; omega
            | on r hr hl hn O1 K1 hc =>
              exfalso
              simp at hr hl
              rcases hr with rfl | rfl
              · rw [g1] at hn; omega
              · rw [k2] at hl; omega
end Go.Proofs.Ytpjppolbkdnkaaa
