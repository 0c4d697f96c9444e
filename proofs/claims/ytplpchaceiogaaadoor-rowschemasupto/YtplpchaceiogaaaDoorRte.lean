/- What the document's Table tells, as lists: its end, its bulk. -/
import Derived.Test.YtplpchaceiogaaaDoorRst
namespace Go.Proofs.YtplpchaceiogaaaDoor
open Go.RowKit
set_option linter.unusedVariables false
set_option linter.unusedSimpArgs false
set_option maxRecDepth 100000

def startOf (bs : List UInt8) : Bool × List Vl := match splitN bs.length bs [] with | none => (true, []) | some l => (false, l)
theorem rT_bad (l : List Vl) : (rT (true, l)).2 = (true, l) := by
  unfold rT
  simp [tk, manyR_bad]
theorem tab_end {bs : List UInt8} (hl : bs.length ≤ 400000000) {T : Tb} {s : Bool × List Vl} (hr : rT (startOf bs) = (T, s)) :
    (tabOf bs = none ∧ (s.1 = true ∨ s.2 ≠ [] ∨ joinL (schL T) ≠ bs)) ∨ (tabOf bs = some T ∧ s = (false, []) ∧ joinL (schL T) = bs) := by
  unfold startOf at hr
  cases hs : splitN bs.length bs [] with
  | none =>
    simp only [hs] at hr
    have h1 := rT_bad []
    rw [hr] at h1
    have h2 : s = (true, []) := h1
    exact .inl ⟨by unfold tabOf; rw [hs]; rfl, .inl (by rw [h2])⟩
  | some l =>
    simp only [hs] at hr
    obtain ⟨A, B⟩ := tabOf_ref hl hs
    cases ht : tabOf bs with
    | none =>
      refine .inl ⟨rfl, ?_⟩
      obtain ⟨b, r⟩ := s
      cases b with
      | true => exact .inl rfl
      | false =>
        cases r with
        | cons v r => exact .inr (.inl (by simp))
        | nil => exact .inr (.inr (B ht T hr))
    | some T0 =>
      obtain ⟨h1, h2⟩ := A T0 ht
      rw [hr] at h1
      injection h1 with e1 e2
      subst e1
      exact .inr ⟨rfl, e2, h2⟩
def bl (V : Vl) : Nat := 2 * V.t.length + 20
theorem tk_bulk (t : Int) (s : Bool × List Vl) : bl (tk t s).1 + bulk (tk t s).2.2 ≤ bulk s.2 + 20 ∧ ((tk t s).2.1 = false → bl (tk t s).1 + bulk (tk t s).2.2 ≤ bulk s.2 ∧ s.1 = false) := by
  obtain ⟨b, l⟩ := s
  unfold tk
  cases b with
  | true => exact ⟨by simp [bl, Vl.zero]; omega, fun h => by simp at h⟩
  | false =>
    simp only [Bool.false_eq_true, if_false]
    cases hq : takeV t l with
    | none => exact ⟨by simp [bl, Vl.zero]; omega, fun h => by simp at h⟩
    | some p =>
      obtain ⟨e, _⟩ := takeV_some hq
      have : bulk l = bl p.1 + bulk p.2 := by rw [e]; simp [bulk, bl]
      exact ⟨by simp only; omega, fun _ => ⟨by simp only; omega, by simp⟩⟩
def OneBulk {α : Type} (one : Bool × List Vl → α × (Bool × List Vl)) (f : α → Nat) : Prop := ∀ s, f (one s).1 + bulk (one s).2.2 ≤ bulk s.2 + 80 ∧ ((one s).2.1 = false → f (one s).1 + bulk (one s).2.2 ≤ bulk s.2)
theorem colR_bulk : OneBulk colR (fun C => 2 * C.nm.length + 80) := fun s => by
  obtain ⟨a1, a2⟩ := tk_bulk 2 s
  obtain ⟨b1, b2⟩ := tk_bulk 1 (tk 2 s).2
  obtain ⟨c1, c2⟩ := tk_bulk 3 (tk 1 (tk 2 s).2).2
  obtain ⟨d1, d2⟩ := tk_bulk 3 (tk 3 (tk 1 (tk 2 s).2).2).2
  simp only [bl] at *
  refine ⟨?_, fun h => ?_⟩
  · unfold colR; simp only; omega
  · unfold colR at h ⊢
    simp only at h ⊢
    obtain ⟨d3, hc⟩ := d2 h
    obtain ⟨c3, hb⟩ := c2 hc
    obtain ⟨b3, ha⟩ := b2 hb
    obtain ⟨a3, _⟩ := a2 ha
    omega
theorem idxR_bulk : OneBulk idxR (fun X => 2 * X.nm.length + 60) := fun s => by
  obtain ⟨a1, a2⟩ := tk_bulk 2 s
  obtain ⟨b1, b2⟩ := tk_bulk 1 (tk 2 s).2
  obtain ⟨c1, c2⟩ := tk_bulk 3 (tk 1 (tk 2 s).2).2
  simp only [bl] at *
  refine ⟨?_, fun h => ?_⟩
  · unfold idxR; simp only; omega
  · unfold idxR at h ⊢
    simp only at h ⊢
    obtain ⟨c3, hb⟩ := c2 h
    obtain ⟨b3, ha⟩ := b2 hb
    obtain ⟨a3, _⟩ := a2 ha
    omega
theorem rootR_bulk : OneBulk rootR (fun _ => 20) := fun s => by
  obtain ⟨a1, a2⟩ := tk_bulk 1 s
  simp only [bl] at *
  refine ⟨?_, fun h => ?_⟩
  · unfold rootR; simp only; omega
  · unfold rootR at h ⊢
    simp only at h ⊢
    have := (a2 h).1
    omega
theorem manyR_bulk {α : Type} {one : Bool × List Vl → α × (Bool × List Vl)} {f : α → Nat} (ho : OneBulk one f) : ∀ (n : Nat) (s : Bool × List Vl) (acc : List α), ((manyR one n s acc).1.map f).sum + bulk (manyR one n s acc).2.2 ≤ (acc.map f).sum + bulk s.2 + 80
  | 0, s, acc => by simp only [manyR]; omega
  | n + 1, s, acc => by
    simp only [manyR]
    split
    · simp only; omega
    · obtain ⟨h1, h2⟩ := ho s
      cases hb : (one s).2.1 with
      | true =>
        have e : (one s).2 = (true, (one s).2.2) := by rw [← hb]
        rw [e, manyR_bad]
        simp only [List.map_append, List.sum_append, List.map_cons, List.map_nil, List.sum_cons, List.sum_nil]
        omega
      | false =>
        have h3 := h2 hb
        have := manyR_bulk ho n (one s).2 (acc ++ [(one s).1])
        simp only [List.map_append, List.sum_append, List.map_cons, List.map_nil, List.sum_cons, List.sum_nil] at this
        omega
theorem rT_bulk (s : Bool × List Vl) : tbulk (rT s).1 ≤ bulk s.2 + 400 := by
  have a := (tk_bulk 2 s).1
  have b := (tk_bulk 1 (tk 2 s).2).1
  have c := manyR_bulk colR_bulk (tk 1 (tk 2 s).2).1.n.toNat (tk 1 (tk 2 s).2).2 []
  unfold rT tbulk
  simp only
  generalize (tk 1 (tk 2 s).2) = p1 at *
  generalize manyR colR p1.1.n.toNat p1.2 [] = p2 at *
  have d := (tk_bulk 1 p2.2).1
  generalize tk 1 p2.2 = p3 at *
  have e := manyR_bulk idxR_bulk p3.1.n.toNat p3.2 []
  generalize manyR idxR p3.1.n.toNat p3.2 [] = p4 at *
  have x := (tk_bulk 1 p4.2).1
  have y := (tk_bulk 1 (tk 1 p4.2).2).1
  generalize tk 1 p4.2 = p5 at *
  generalize tk 1 p5.2 = p6 at *
  have z := manyR_bulk rootR_bulk p6.1.n.toNat p6.2 []
  generalize manyR rootR p6.1.n.toNat p6.2 [] = p7 at *
  simp only [bl, List.map_nil, List.sum_nil] at *
  omega
theorem esc_len : ∀ t : List UInt8, t.length ≤ (esc t).length
  | [] => by simp
  | x :: t => by
    have := esc_len t
    rw [esc_cons, List.length_append, List.length_cons]
    have h1 : 1 ≤ (escB x).length := by unfold escB; split <;> simp
    omega
theorem enc_len {v : Vl} (h : cleanV v) : bl v ≤ 22 * (enc v).length := by
  have h1 := (length_enc v).1
  unfold bl
  by_cases ht : v.ty = 2
  · have hv := clean_t h ht
    rw [hv]
    have e : enc (tV v.t) = 2 :: (esc v.t ++ [0, 0]) := rfl
    have := esc_len v.t
    have et : (tV v.t).t = v.t := rfl
    rw [e, et]
    simp
    omega
  · have : v.t = [] := by
      have hc : clean v = v := h
      rw [← hc]
      unfold clean
      simp only [ht, if_false]
      split
      · rfl
      · split <;> rfl
    rw [this]
    simp
    omega
theorem bulk_join : ∀ l : List Vl, (∀ v ∈ l, cleanV v) → bulk l ≤ 22 * (joinL l).length
  | [], _ => by simp [bulk]
  | v :: l, h => by
    have h1 := enc_len (h v (by simp))
    have h2 := bulk_join l (fun u hu => h u (by simp [hu]))
    have e : joinL (v :: l) = enc v ++ joinL l := rfl
    have e2 : bulk (v :: l) = bl v + bulk l := by simp [bulk, bl]
    rw [e, e2, List.length_append]
    omega
/-- The table is within bounds. -/
theorem rT_ok {bs : List UInt8} (hl : bs.length ≤ 1048576) {T : Tb} {s : Bool × List Vl} (hr : rT (startOf bs) = (T, s)) (hs : s.1 = false) : T.wf ∧ tbulk T ≤ 400000000 := by
  unfold startOf at hr
  cases hsp : splitN bs.length bs [] with
  | none =>
    simp only [hsp] at hr
    have h1 := rT_bad []
    rw [hr] at h1
    rw [show s = (true, []) from h1] at hs
    simp at hs
  | some l =>
    simp only [hsp] at hr
    obtain ⟨m, e1, e2, e3, e4⟩ := splitN_sound _ _ _ _ hsp
    rw [List.nil_append] at e1
    subst e1
    have hll : l.length ≤ 1000000000 := by have := len_join l; rw [e2] at this; omega
    have hw := rT_wf e4 hll
    have hb := rT_bulk (false, l)
    have hj := bulk_join l e3
    rw [e2] at hj
    rw [hr] at hw hb
    simp only at hw hb
    refine ⟨⟨fun C hC => ?_, fun X hX => ?_, ?_, fun r hr' => ?_⟩, by omega⟩
    · exact (hw (nV C.ty) (by simp only [schL, List.mem_append, List.mem_flatMap]; exact .inl (.inl (.inl (.inl (.inr ⟨C, hC, by simp [colVs]⟩)))))).2
    · exact (hw (nV X.col) (by simp only [schL, List.mem_append, List.mem_flatMap]; exact .inl (.inl (.inr ⟨X, hX, by simp [idxVs]⟩)))).2
    · exact (hw (nV T.head) (by simp [schL])).2
    · exact (hw (nV r) (by simp only [schL, List.mem_append, List.mem_map]; exact .inr ⟨r, hr', rfl⟩)).2
end Go.Proofs.YtplpchaceiogaaaDoor
