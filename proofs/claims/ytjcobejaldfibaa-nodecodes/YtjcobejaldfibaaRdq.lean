/- What the document's Decode reads, as lists. -/
import Derived.Test.YtjcobejaldfibaaRdp
import Derived.Test.YtjcobejaldfibaaFdw
namespace Go.Proofs.Ytjcobejaldfibaa
open Go.RowKit
set_option linter.unusedVariables false
set_option linter.unusedSimpArgs false

theorem RSr.start {w : World} {pa : Option Addr} {pc : Nat} {bs : List UInt8} (lf : Bool) (h : Sl w (.slice pa bs.length pc) bs) (h1 : 1 ≤ bs.length) :
    RSr w (((w.alloc (.cells #[.bool false, .slice none 0 0, .slice none 0 0, .slice none 0 0, .int .i64 0] 43)).alloc (.cells #[.slice (cutAt pa pc 1) (bs.length - 1) (pc - 1), .bool false] 78)).alloc (.cells #[.bool lf, .slice none 0 0, .slice none 0 0, .slice none 0 0, .int .i64 0] 43)) lf 0 (.slice none 0 0) (.slice none 0 0) (.slice none 0 0) ⟨[], [], [], bs.drop 1⟩ false (cutAt pa pc 1) (pc - 1) := by
  have s1 : (w.alloc (.cells #[.bool false, .slice none 0 0, .slice none 0 0, .slice none 0 0, .int .i64 0] 43)).heap.size = w.heap.size + 1 := by simp
  have s2 : ((w.alloc (.cells #[.bool false, .slice none 0 0, .slice none 0 0, .slice none 0 0, .int .i64 0] 43)).alloc (.cells #[.slice (cutAt pa pc 1) (bs.length - 1) (pc - 1), .bool false] 78)).heap.size = w.heap.size + 1 + 1 := by simp
  have q1 := (Below.refl w.heap.size w).alloc (Nat.le_refl _) (.cells #[.bool false, .slice none 0 0, .slice none 0 0, .slice none 0 0, .int .i64 0] 43)
  have q2 := q1.alloc q1.size (.cells #[.slice (cutAt pa pc 1) (bs.length - 1) (pc - 1), .bool false] 78)
  have q3 := q2.alloc q2.size (.cells #[.bool lf, .slice none 0 0, .slice none 0 0, .slice none 0 0, .int .i64 0] 43)
  have hl : (bs.drop 1).length = bs.length - 1 := List.length_drop ..
  refine ⟨q3, ((Box.new w _ _ _ _ _).alloc _).alloc _, ?_, ?_, ?_, World.ownsRow_nil _ _ _ _, World.ownsRow_nil _ _ _ _, World.ownsRow_nil _ _ _ _, fun q hq => by simp [Value.ownBlock] at hq, by simp⟩
  · have h0 := heap_alloc_new (w.alloc (.cells #[.bool false, .slice none 0 0, .slice none 0 0, .slice none 0 0, .int .i64 0] 43)) (.cells #[.slice (cutAt pa pc 1) (bs.length - 1) (pc - 1), .bool false] 78)
    rw [s1] at h0
    show _ = some (Obj.cells #[.slice (cutAt pa pc 1) (bs.drop 1).length (pc - 1), .bool false] 78 (0, 0))
    rw [hl]
    exact (Below.heap_alloc _ _ _ (by rw [s2]; omega)).trans h0
  · have := Box.new (t := 43) ((w.alloc (.cells #[.bool false, .slice none 0 0, .slice none 0 0, .slice none 0 0, .int .i64 0] 43)).alloc (.cells #[.slice (cutAt pa pc 1) (bs.length - 1) (pc - 1), .bool false] 78)) (.bool lf) (.slice none 0 0) (.slice none 0 0) (.slice none 0 0) (.int .i64 0)
    rwa [s2] at this
  · show Sl w (.slice (cutAt pa pc 1) (bs.drop 1).length (pc - 1)) (bs.drop 1)
    rw [hl]
    exact h.from 1 h1
/-- Behind j rounds: all is well, or nothing can come of it. -/
def LInv (lf : Bool) (R7 : List UInt8) (c j : Nat) (s : PS) (bad : Bool) : Prop :=
  ((bad = false ∧ pl lf (start lf R7) j = some s) ∨ (bad = true ∧ pl lf (start lf R7) c = none)) ∧ PFit s j
theorem fitK {s : PS} {j : Nat} {T R1 : List UInt8} {b0 b1 : Bool} (hf : PFit s j) (h1 : XOut s.rest b0 T R1 b1) : T.length ≤ 504 ∧ R1.length ≤ 504 := by
  have := hf.r
  rcases h1 with ⟨_, _, hr⟩ | ⟨_, rfl, hr, _⟩
  · obtain ⟨q1, q2⟩ := rdT_len hr
    omega
  · exact ⟨by simp, by omega⟩
theorem mem_app {L : List (List UInt8)} {T : List UInt8} (h : ∀ k ∈ L, k.length ≤ 504) (hT : T.length ≤ 504) : ∀ k ∈ L ++ [T], k.length ≤ 504 := fun k hk => by
  rcases List.mem_append.1 hk with hk | hk
  · exact h k hk
  · simp at hk; subst hk; exact hT
theorem linvV {R7 : List UInt8} {c j : Nat} {s : PS} {T R1 T2 R2 : List UInt8} {b1 b2 : Bool} (hp : pl true (start true R7) j = some s) (hj : j < c) (hf : PFit s j) (h1 : XOut s.rest false T R1 b1) (h2 : XOut R1 b1 T2 R2 b2) : LInv true R7 c (j + 1) ⟨s.keys ++ [T], s.vals ++ [T2], s.kids, R2⟩ b2 := by
  obtain ⟨t1, r1⟩ := fitK hf h1
  have q : T2.length ≤ 504 ∧ R2.length ≤ 504 := by
    rcases h2 with ⟨_, _, hr⟩ | ⟨_, rfl, hr, _⟩
    · obtain ⟨q1, q2⟩ := rdT_len hr
      omega
    · exact ⟨by simp, by omega⟩
  refine ⟨?_, ⟨by have := hf.nk; simp; omega, by have := hf.nv; simp; omega, by have := hf.ni; simp; omega, mem_app hf.k t1, mem_app hf.v q.1, q.2⟩⟩
  have step : pl true (start true R7) (j + 1) = (pstK s).bind pstV := by
    show (pl true (start true R7) j).bind (pst true) = _
    rw [hp]
    rfl
  have none_of : (pstK s).bind pstV = none → pl true (start true R7) c = none := fun e => pl_none (step.trans e) c (by omega)
  rcases h1 with ⟨_, rfl, hr1⟩ | ⟨rfl, _, _, hr1⟩
  · have hk : pstK s = some ⟨s.keys ++ [T], s.vals, s.kids, R1⟩ := by unfold pstK; rw [hr1]
    rcases h2 with ⟨_, rfl, hr2⟩ | ⟨rfl, _, _, hr2⟩
    · refine .inl ⟨rfl, ?_⟩
      rw [step, hk]
      show pstV _ = _
      unfold pstV
      rw [hr2]
    · refine .inr ⟨rfl, none_of ?_⟩
      rw [hk]
      show pstV _ = _
      unfold pstV
      rcases hr2 with hr2 | hr2
      · cases hr2
      · rw [hr2]
  · have hb2 : b2 = true := by
      rcases h2 with ⟨e, _⟩ | ⟨e, _⟩
      · cases e
      · exact e
    refine .inr ⟨hb2, none_of ?_⟩
    rcases hr1 with hr1 | hr1
    · cases hr1
    · unfold pstK
      rw [hr1]
      rfl
theorem linvI {R7 : List UInt8} {c j : Nat} {s : PS} {T R1 R2 : List UInt8} {b1 b2 : Bool} {x : Nat} (hp : pl false (start false R7) j = some s) (hj : j < c) (hf : PFit s j) (h1 : XOut s.rest false T R1 b1) (h2 : NOut 4 R1 b1 x R2 b2) : LInv false R7 c (j + 1) ⟨s.keys ++ [T], s.vals, s.kids ++ [(x : Int)], R2⟩ b2 := by
  obtain ⟨t1, r1⟩ := fitK hf h1
  have q : R2.length ≤ 504 := by
    rcases h2 with ⟨_, _, hr⟩ | ⟨_, _, rfl, _⟩
    · have := rd_len hr
      omega
    · exact r1
  refine ⟨?_, ⟨by have := hf.nk; simp; omega, by have := hf.nv; show s.vals.length ≤ _; omega, by have := hf.ni; simp; omega, mem_app hf.k t1, hf.v, q⟩⟩
  have step : pl false (start false R7) (j + 1) = (pstK s).bind pstI := by
    show (pl false (start false R7) j).bind (pst false) = _
    rw [hp]
    rfl
  have none_of : (pstK s).bind pstI = none → pl false (start false R7) c = none := fun e => pl_none (step.trans e) c (by omega)
  rcases h1 with ⟨_, rfl, hr1⟩ | ⟨rfl, _, _, hr1⟩
  · have hk : pstK s = some ⟨s.keys ++ [T], s.vals, s.kids, R1⟩ := by unfold pstK; rw [hr1]
    rcases h2 with ⟨_, rfl, hr2⟩ | ⟨rfl, _, _, hr2⟩
    · refine .inl ⟨rfl, ?_⟩
      rw [step, hk]
      show pstI _ = _
      unfold pstI
      rw [hr2]
    · refine .inr ⟨rfl, none_of ?_⟩
      rw [hk]
      show pstI _ = _
      unfold pstI
      rcases hr2 with hr2 | hr2
      · cases hr2
      · rw [hr2]
  · have hb2 : b2 = true := by
      rcases h2 with ⟨e, _⟩ | ⟨e, _⟩
      · cases e
      · exact e
    refine .inr ⟨hb2, none_of ?_⟩
    rcases hr1 with hr1 | hr1
    · cases hr1
    · unfold pstK
      rw [hr1]
      rfl
theorem linv0 {R7 R' : List UInt8} {c x : Nat} {b : Bool} (hR : R7.length ≤ 504) (h : NOut 4 R7 false x R' b) : LInv false R7 c 0 ⟨[], [], [(x : Int)], R'⟩ b := by
  have hl : R'.length ≤ 504 := by
    rcases h with ⟨_, _, hr⟩ | ⟨_, _, rfl, _⟩
    · have := rd_len hr
      omega
    · exact hR
  refine ⟨?_, ⟨by simp, by simp, by simp, fun k hk => by simp at hk, fun k hk => by simp at hk, hl⟩⟩
  rcases h with ⟨_, rfl, hr⟩ | ⟨rfl, _, _, hr⟩
  · refine .inl ⟨rfl, ?_⟩
    show pstI ⟨[], [], [], R7⟩ = _
    unfold pstI
    simp only
    rw [hr]
    rfl
  · refine .inr ⟨rfl, pl_none (j := 0) (?_ : pl false (start false R7) 0 = none) c (Nat.zero_le _)⟩
    show pstI ⟨[], [], [], R7⟩ = _
    unfold pstI
    simp only
    rcases hr with hr | hr
    · cases hr
    · rw [hr]
/-- What the document's Decode ends with. -/
def RcEnd (w : World) (bs : List UInt8) (e : Ending) (w' : World) : Prop :=
  ∃ a b c, e = .returned (.tuple #[.agg #[.bool ((dcf bs).getD Nd.zero).leaf, a, b, c, .int .i64 ((dcf bs).getD Nd.zero).next], .bool (dcf bs).isSome]) ∧ Below w.heap.size w w' ∧ RdAt w' ((dcf bs).getD Nd.zero) a b c
theorem RcEnd.no {w w' : World} {bs : List UInt8} (h : dcf bs = none) (hb : Below w.heap.size w w') : RcEnd w bs (.returned (.tuple #[.agg #[.bool false, .slice none 0 0, .slice none 0 0, .slice none 0 0, .int .i64 0], .bool false])) w' :=
  ⟨_, _, _, by rw [h]; rfl, hb, by rw [h]; exact ⟨StAt.nil _, StAt.nil _, Row.nil _⟩⟩
theorem RcEnd.yes {w w' : World} {bs : List UInt8} {N : Nd} {a b c : Value} (h : dcf bs = some N) (hb : Below w.heap.size w w') (ha : RdAt w' N a b c) : RcEnd w bs (.returned (.tuple #[.agg #[.bool N.leaf, a, b, c, .int .i64 N.next], .bool true])) w' :=
  ⟨a, b, c, by rw [h]; rfl, hb, by rw [h]; exact ha⟩
/-! ### What was read, written again -/
theorem flatTo_congr {n : Nat} {f g : Nat → List UInt8} (h : ∀ i, i < n → f i = g i) : flatTo n f = flatTo n g := by
  induction n with
  | zero => rfl
  | succ n ih => rw [flatTo_succ, flatTo_succ, ih (fun i hi => h i (by omega)), h n (by omega)]
theorem rd_back {c x : Nat} {R R' : List UInt8} (h : rd c R = some (x, R')) : R = be c x ++ R' := by
  unfold rd at h
  split at h
  · rename_i hl
    simp only [Option.some.injEq, Prod.mk.injEq] at h
    obtain ⟨rfl, rfl⟩ := h
    rw [be_beval c (R.take c) (by rw [List.length_take]; omega), List.take_append_drop]
  · cases h
theorem rdT_back {R R' t : List UInt8} (h : rdT R = some (t, R')) : R = txt t ++ R' := by
  unfold rdT at h
  split at h
  · cases h
  · rename_i n R1 e
    split at h
    · rename_i hl
      simp only [Option.some.injEq, Prod.mk.injEq] at h
      obtain ⟨rfl, rfl⟩ := h
      have := rd_back e
      unfold txt
      rw [List.length_take, Nat.min_eq_left hl, List.append_assoc, List.take_append_drop]
      exact this
    · cases h
theorem getD_app {α : Type} {L : List α} {t d : α} {i : Nat} (hi : i < L.length) : (L ++ [t]).getD i d = L.getD i d := by
  simp [List.getD_eq_getElem?_getD, List.getElem?_append_left hi]
theorem getD_end {α : Type} {L : List α} {t d : α} : (L ++ [t]).getD L.length d = t := by
  simp [List.getD_eq_getElem?_getD]
structure PBody (lf : Bool) (R7 : List UInt8) (nx j : Nat) (s : PS) : Prop where
  nk : s.keys.length = j
  nv : lf = true → s.vals.length = j
  ni : lf = false → s.kids.length = j + 1
  body : R7 = (ndOf lf nx s).first ++ flatTo j (encAt (ndOf lf nx s)) ++ s.rest
theorem pl_body {lf : Bool} {R7 : List UInt8} (nx : Nat) : ∀ (j : Nat) (s : PS), pl lf (start lf R7) j = some s → PBody lf R7 nx j s
  | 0, s, h => by
    have h : start lf R7 = some s := h
    unfold start at h
    cases lf with
    | true =>
      simp at h
      subst h
      exact ⟨rfl, fun _ => rfl, fun e => (by cases e), by simp [Nd.first, ndOf, flatTo_zero]⟩
    | false =>
      simp only [Bool.false_eq_true, if_false] at h
      unfold pstI at h
      simp only at h
      cases hv : rd 4 R7 with
      | none => rw [hv] at h; cases h
      | some p =>
        obtain ⟨x, R2⟩ := p
        rw [hv] at h
        simp only [Option.some.injEq] at h
        subst h
        refine ⟨rfl, fun e => (by cases e), fun _ => rfl, ?_⟩
        have := rd_back hv
        simp [Nd.first, ndOf, flatTo_zero]
        exact this
  | j + 1, s, h => by
    have h : (pl lf (start lf R7) j).bind (pst lf) = some s := h
    cases hs : pl lf (start lf R7) j with
    | none => rw [hs] at h; cases h
    | some s0 =>
      rw [hs] at h
      have ih := pl_body nx j s0 hs
      have h : (pstK s0).bind (if lf then pstV else pstI) = some s := h
      unfold pstK at h
      cases hk : rdT s0.rest with
      | none => rw [hk] at h; cases h
      | some p =>
        obtain ⟨t, R1⟩ := p
        rw [hk] at h
        have b1 := rdT_back hk
        cases lf with
        | true =>
          have h : pstV ⟨s0.keys ++ [t], s0.vals, s0.kids, R1⟩ = some s := h
          unfold pstV at h
          simp only at h
          cases hv : rdT R1 with
          | none => rw [hv] at h; cases h
          | some p =>
            obtain ⟨t2, R2⟩ := p
            rw [hv] at h
            simp only [Option.some.injEq] at h
            subst h
            have b2 := rdT_back hv
            have hvl := ih.nv rfl
            refine ⟨by simp [ih.nk], fun _ => by simp [hvl], fun e => (by cases e), ?_⟩
            rw [flatTo_succ]
            have e1 : flatTo j (encAt (ndOf true nx ⟨s0.keys ++ [t], s0.vals ++ [t2], s0.kids, R2⟩)) = flatTo j (encAt (ndOf true nx s0)) := flatTo_congr (fun i hi => by
              unfold encAt ndOf
              simp only [if_true]
              rw [getD_app (by rw [ih.nk]; exact hi), getD_app (by rw [hvl]; exact hi)])
            have e2 : encAt (ndOf true nx ⟨s0.keys ++ [t], s0.vals ++ [t2], s0.kids, R2⟩) j = txt t ++ txt t2 := by
              unfold encAt ndOf
              simp only [if_true]
              rw [show (s0.keys ++ [t]).getD j [] = t by rw [← ih.nk]; exact getD_end, show (s0.vals ++ [t2]).getD j [] = t2 by rw [← hvl]; exact getD_end]
            rw [e1, e2]
            have hb := ih.body
            rw [b1, b2] at hb
            rw [hb]
            simp [Nd.first, ndOf]
        | false =>
          have h : pstI ⟨s0.keys ++ [t], s0.vals, s0.kids, R1⟩ = some s := h
          unfold pstI at h
          simp only at h
          cases hv : rd 4 R1 with
          | none => rw [hv] at h; cases h
          | some p =>
            obtain ⟨x, R2⟩ := p
            rw [hv] at h
            simp only [Option.some.injEq] at h
            subst h
            have b2 := rd_back hv
            have hvl := ih.ni rfl
            refine ⟨by simp [ih.nk], fun e => (by cases e), fun _ => by simp [hvl], ?_⟩
            rw [flatTo_succ]
            have e1 : flatTo j (encAt (ndOf false nx ⟨s0.keys ++ [t], s0.vals, s0.kids ++ [(x : Int)], R2⟩)) = flatTo j (encAt (ndOf false nx s0)) := flatTo_congr (fun i hi => by
              unfold encAt ndOf
              simp only [Bool.false_eq_true, if_false]
              rw [getD_app (by rw [ih.nk]; exact hi), getD_app (by rw [hvl]; omega)])
            have e2 : encAt (ndOf false nx ⟨s0.keys ++ [t], s0.vals, s0.kids ++ [(x : Int)], R2⟩) j = txt t ++ be 4 x := by
              unfold encAt ndOf
              simp only [Bool.false_eq_true, if_false]
              rw [show (s0.keys ++ [t]).getD j [] = t by rw [← ih.nk]; exact getD_end, show (s0.kids ++ [(x : Int)]).getD (j + 1) 0 = (x : Int) by rw [← hvl]; exact getD_end]
              rfl
            have e3 : (ndOf false nx ⟨s0.keys ++ [t], s0.vals, s0.kids ++ [(x : Int)], R2⟩).first = (ndOf false nx s0).first := by
              unfold Nd.first ndOf
              simp only [Bool.false_eq_true, if_false]
              rw [getD_app (by omega)]
            rw [e1, e2, e3]
            have hb := ih.body
            rw [b1, b2] at hb
            rw [hb]
            simp
theorem page_back {lf : Bool} {bs : List UInt8} {s : PS} (h : bs.length = 504) (hk : (bs.getD 0 0).toNat = if lf then 1 else 2) (hp : pl lf (start lf (((bs.drop 1).drop 2).drop 4)) (beval ((bs.drop 1).take 2)) = some s) :
    bs = (ndOf lf (beval (((bs.drop 1).drop 2).take 4)) s).body ++ s.rest := by
  have hb := pl_body (beval (((bs.drop 1).drop 2).take 4)) _ _ hp
  have h1 : bs = [bs.getD 0 0] ++ bs.drop 1 := by
    match bs, h with
    | b :: r, _ => simp
  have h2 : bs.drop 1 = be 2 (beval ((bs.drop 1).take 2)) ++ (bs.drop 1).drop 2 := by
    rw [be_beval 2 _ (by rw [List.length_take, List.length_drop]; omega), List.take_append_drop]
  have h3 : (bs.drop 1).drop 2 = be 4 (beval (((bs.drop 1).drop 2).take 4)) ++ ((bs.drop 1).drop 2).drop 4 := by
    rw [be_beval 4 _ (by rw [List.length_take, List.length_drop, List.length_drop]; omega), List.take_append_drop]
  have hkd : (ndOf lf (beval (((bs.drop 1).drop 2).take 4)) s).kind = bs.getD 0 0 := by
    unfold Nd.kind ndOf
    apply UInt8.toNat_inj.1
    rw [hk]
    cases lf <;> rfl
  have hhead : (ndOf lf (beval (((bs.drop 1).drop 2).take 4)) s).head = bs.getD 0 0 :: (be 2 (beval ((bs.drop 1).take 2)) ++ be 4 (beval (((bs.drop 1).drop 2).take 4))) := by
    unfold Nd.head
    rw [hkd]
    show bs.getD 0 0 :: (be 2 s.keys.length ++ be 4 (beval (((bs.drop 1).drop 2).take 4))) = _
    rw [hb.nk]
  have hbody := hb.body
  unfold Nd.body
  rw [hhead, show (ndOf lf (beval (((bs.drop 1).drop 2).take 4)) s).keys.length = beval ((bs.drop 1).take 2) from hb.nk]
  have e1 : bs = [bs.getD 0 0] ++ (be 2 (beval ((bs.drop 1).take 2)) ++ (be 4 (beval (((bs.drop 1).drop 2).take 4)) ++ ((bs.drop 1).drop 2).drop 4)) := by
    rw [← h3, ← h2]
    exact h1
  refine e1.trans ?_
  rw [hbody]
  simp
theorem page_is {bs : List UInt8} {N : Nd} {R : List UInt8} (h : bs.length = 504) (hb : bs = N.body ++ R) : (N.page = bs ↔ noughtsB R = true) ∧ N.body.length ≤ 504 := by
  have hl : N.body.length + R.length = 504 := by rw [← h, hb, List.length_append]
  refine ⟨?_, by omega⟩
  unfold Nd.page
  constructor
  · intro e
    rw [hb] at e
    have e := List.append_cancel_left e
    rw [← e]
    unfold noughtsB
    simp
  · intro hn
    have : R = List.replicate (504 - N.body.length) 0 := by
      rw [List.eq_replicate_iff]
      refine ⟨by omega, fun x hx => ?_⟩
      unfold noughtsB at hn
      rw [List.all_eq_true] at hn
      simpa using hn x hx
    rw [hb]
    rw [this]
end Go.Proofs.Ytjcobejaldfibaa
