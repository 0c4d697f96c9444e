/- What Decode reads, as lists; where it stands in memory. -/
import Derived.Test.YtjcobejaldfibaaRdk
namespace Go.Proofs.Ytjcobejaldfibaa
open Go.RowKit
set_option linter.unusedVariables false
set_option linter.unusedSimpArgs false

structure PS where
  keys : List (List UInt8)
  vals : List (List UInt8)
  kids : List Int
  rest : List UInt8
def pstK (s : PS) : Option PS := match rdT s.rest with | none => none | some (k, R) => some ⟨s.keys ++ [k], s.vals, s.kids, R⟩
def pstV (s : PS) : Option PS := match rdT s.rest with | none => none | some (k, R) => some ⟨s.keys, s.vals ++ [k], s.kids, R⟩
def pstI (s : PS) : Option PS := match rd 4 s.rest with | none => none | some (x, R) => some ⟨s.keys, s.vals, s.kids ++ [(x : Int)], R⟩
def pst (lf : Bool) (s : PS) : Option PS := (pstK s).bind (if lf then pstV else pstI)
def pl (lf : Bool) (o : Option PS) : Nat → Option PS
  | 0 => o
  | j + 1 => (pl lf o j).bind (pst lf)
def start (lf : Bool) (R : List UInt8) : Option PS := if lf then some ⟨[], [], [], R⟩ else pstI ⟨[], [], [], R⟩
def ndOf (lf : Bool) (nx : Nat) (s : PS) : Nd := ⟨lf, s.keys, s.vals, s.kids, (nx : Int)⟩
def fin (lf : Bool) (nx : Nat) : Option PS → Option Nd
  | none => none
  | some s => if (ndOf lf nx s).sound && noughtsB s.rest then some (ndOf lf nx s) else none
def dcf (bs : List UInt8) : Option Nd :=
  if bs.length = 504 ∧ ((bs.getD 0 0).toNat = 1 ∨ (bs.getD 0 0).toNat = 2) then
    fin (decide ((bs.getD 0 0).toNat = 1)) (beval (((bs.drop 1).drop 2).take 4)) (pl (decide ((bs.getD 0 0).toNat = 1)) (start (decide ((bs.getD 0 0).toNat = 1)) (((bs.drop 1).drop 2).drop 4)) (beval ((bs.drop 1).take 2)))
  else none
theorem dcf_not {bs : List UInt8} (h : ¬ (bs.length = 504 ∧ ((bs.getD 0 0).toNat = 1 ∨ (bs.getD 0 0).toNat = 2))) : dcf bs = none := by
  unfold dcf
  rw [if_neg h]
theorem dcf_yes {bs : List UInt8} {lf : Bool} (h : bs.length = 504) (hk : (bs.getD 0 0).toNat = if lf then 1 else 2) : dcf bs = fin lf (beval (((bs.drop 1).drop 2).take 4)) (pl lf (start lf (((bs.drop 1).drop 2).drop 4)) (beval ((bs.drop 1).take 2))) := by
  have e : decide ((bs.getD 0 0).toNat = 1) = lf := by rw [hk]; cases lf <;> rfl
  unfold dcf
  rw [if_pos ⟨h, by rw [hk]; cases lf <;> simp⟩, e]
theorem pl_none {lf : Bool} {o : Option PS} {j : Nat} (h : pl lf o j = none) : ∀ k, j ≤ k → pl lf o k = none := by
  intro k hk
  induction k with
  | zero =>
    have : j = 0 := by omega
    subst this
    exact h
  | succ k ih =>
    rcases Nat.lt_or_ge j (k + 1) with hl | hl
    · show (pl lf o k).bind (pst lf) = none
      rw [ih (by omega)]
      rfl
    · have : j = k + 1 := by omega
      subst this
      exact h
/-- What is read is small. -/
structure PFit (s : PS) (j : Nat) : Prop where
  nk : s.keys.length ≤ j
  nv : s.vals.length ≤ j
  ni : s.kids.length ≤ j + 1
  k : ∀ k ∈ s.keys, k.length ≤ 504
  v : ∀ k ∈ s.vals, k.length ≤ 504
  r : s.rest.length ≤ 504
theorem rdT_len {R R' t : List UInt8} (h : rdT R = some (t, R')) : t.length ≤ R.length ∧ R'.length ≤ R.length := by
  unfold rdT rd at h
  split at h
  · cases h
  · rename_i n R1 e
    split at e
    · simp only [Option.some.injEq, Prod.mk.injEq] at e
      obtain ⟨_, rfl⟩ := e
      split at h
      · simp only [Option.some.injEq, Prod.mk.injEq] at h
        obtain ⟨rfl, rfl⟩ := h
        simp
        omega
      · cases h
    · cases e
theorem rd_len {s x : Nat} {R R' : List UInt8} (h : rd s R = some (x, R')) : R'.length ≤ R.length := by
  unfold rd at h
  split at h
  · simp only [Option.some.injEq, Prod.mk.injEq] at h
    obtain ⟨_, rfl⟩ := h
    simp
  · cases h
theorem PFit.key {s : PS} {j : Nat} {t R' : List UInt8} (h : PFit s j) (ht : rdT s.rest = some (t, R')) : (⟨s.keys ++ [t], s.vals, s.kids, R'⟩ : PS).keys.length ≤ j + 1 ∧ (∀ k ∈ s.keys ++ [t], k.length ≤ 504) ∧ R'.length ≤ 504 := by
  obtain ⟨h1, h2⟩ := rdT_len ht
  have := h.r
  refine ⟨by have := h.nk; simp; omega, fun k hk => ?_, by omega⟩
  rcases List.mem_append.1 hk with hk | hk
  · exact h.k k hk
  · simp at hk; subst hk; omega
theorem pst_fit {lf : Bool} {s s' : PS} {j : Nat} (h : PFit s j) (hs : pst lf s = some s') : PFit s' (j + 1) := by
  unfold pst pstK at hs
  cases hk : rdT s.rest with
  | none => rw [hk] at hs; cases hs
  | some p =>
    obtain ⟨t, R'⟩ := p
    rw [hk] at hs
    obtain ⟨q1, q2, q3⟩ := h.key hk
    have hnv := h.nv
    have hni := h.ni
    simp only [Option.bind_some] at hs
    cases lf with
    | true =>
      simp only [if_true] at hs
      unfold pstV at hs
      simp only at hs
      cases hv : rdT R' with
      | none => rw [hv] at hs; cases hs
      | some p =>
        obtain ⟨t2, R2⟩ := p
        rw [hv] at hs
        simp only [Option.some.injEq] at hs
        subst hs
        obtain ⟨r1, r2⟩ := rdT_len hv
        refine ⟨q1, by simp; omega, by simp; omega, q2, fun k hk => ?_, by simp; omega⟩
        rcases List.mem_append.1 hk with hk | hk
        · exact h.v k hk
        · simp at hk; subst hk; omega
    | false =>
      simp only [Bool.false_eq_true, if_false] at hs
      unfold pstI at hs
      simp only at hs
      cases hv : rd 4 R' with
      | none => rw [hv] at hs; cases hs
      | some p =>
        obtain ⟨x, R2⟩ := p
        rw [hv] at hs
        simp only [Option.some.injEq] at hs
        subst hs
        have r1 := rd_len hv
        exact ⟨q1, by simp; omega, by simp; omega, q2, h.v, by simp; omega⟩
theorem start_fit {lf : Bool} {R : List UInt8} {s : PS} (hR : R.length ≤ 504) (h : start lf R = some s) : PFit s 0 := by
  unfold start at h
  cases lf with
  | true =>
    simp at h
    subst h
    exact ⟨by simp, by simp, by simp, fun k hk => by simp at hk, fun k hk => by simp at hk, hR⟩
  | false =>
    simp only [Bool.false_eq_true, if_false] at h
    unfold pstI at h
    simp only at h
    cases hv : rd 4 R with
    | none => rw [hv] at h; cases h
    | some p =>
      obtain ⟨x, R2⟩ := p
      rw [hv] at h
      simp only [Option.some.injEq] at h
      subst h
      have r1 := rd_len hv
      exact ⟨by simp, by simp, by simp, fun k hk => by simp at hk, fun k hk => by simp at hk, by simp; omega⟩
theorem pl_fit {lf : Bool} {R : List UInt8} (hR : R.length ≤ 504) : ∀ (j : Nat) (s : PS), pl lf (start lf R) j = some s → PFit s j
  | 0, s, h => start_fit hR h
  | j + 1, s, h => by
    show PFit s (j + 1)
    have h : (pl lf (start lf R) j).bind (pst lf) = some s := h
    cases hs : pl lf (start lf R) j with
    | none => rw [hs] at h; cases h
    | some s0 =>
      rw [hs] at h
      exact pst_fit (pl_fit hR j s0 hs) h
theorem PFit.fits {s : PS} {j : Nat} (h : PFit s j) (hj : j ≤ 65536) (lf : Bool) (nx : Nat) : Fits (ndOf lf nx s) :=
  ⟨by show 24 * s.keys.length ≤ _; have := h.nk; omega, by show 24 * s.vals.length ≤ _; have := h.nv; omega, by show 8 * s.kids.length ≤ _; have := h.ni; omega, fun k hk => Nat.le_trans (h.k k hk) (by omega), fun k hk => Nat.le_trans (h.v k hk) (by omega)⟩

/-! ### Where Decode stands -/
def DNd (s : PS) : Nd := ⟨false, s.keys, s.vals, s.kids, 0⟩
structure DSr (w W : World) (kd ct : Int) (lf : Bool) (nx : Int) (k v i : Value) (s : PS) (ra : Option Addr) (rc : Nat) : Prop where
  below : Below w.heap.size w W
  y : Box 26 W w.heap.size (.bool false) (.slice none 0 0) (.slice none 0 0) (.slice none 0 0) (.int .i64 0)
  m : Box 26 W (w.heap.size + 1) (.bool lf) k v i (.int .i64 nx)
  kb : W.heap[w.heap.size + 1 + 1]? = some (.cells #[.int .i64 kd] 3 (0, 0))
  cb : W.heap[w.heap.size + 1 + 1 + 1]? = some (.cells #[.int .i64 ct] 3 (0, 0))
  f : W.heap[w.heap.size + 1 + 1 + 1 + 1]? = some (.cells #[.slice ra s.rest.length rc] 69 (0, 0))
  sl : Sl w (.slice ra s.rest.length rc) s.rest
  own : NdOwn (w.heap.size + 1 + 1 + 1 + 1 + 1) W (DNd s) k v i
  sz : w.heap.size + 1 + 1 + 1 + 1 + 1 ≤ W.heap.size
theorem DSr.rd {w W : World} {kd ct : Int} {lf : Bool} {nx : Int} {k v i : Value} {s : PS} {ra : Option Addr} {rc : Nat} (h : DSr w W kd ct lf nx k v i s ra rc) : RdB W (w.heap.size + 1 + 1 + 1 + 1) ra rc s.rest := ⟨h.f, h.sl.belowW h.below⟩
/-- Blocks of one's own lists stay where only boxes and other lists are written. -/
theorem TsOwn.offB {base : Nat} {W W' : World} {v : Value} {L : List (List UInt8)} {fp : List Nat} (h : TsOwn base W v L) (ho : Off fp W W') (h5 : ∀ q C fr, base ≤ q → W.heap[q]? = some (.cells C 5 fr) → q ∉ fp) (hv : ∀ q, v.ownBlock = some q → q ∉ fp) : TsOwn base W' v L :=
  let ⟨us, h1, h2⟩ := h.out
  ⟨us, h1.stay (fun k C fr hk hq => ho.block k (lt_of_heap hq) (h5 k C fr hk hq)), owns_off h2 ho (fun k hk e => hv k e hk)⟩
theorem Box.keep {t : TypeId} {W W' : World} {b : Nat} {c0 c1 c2 c3 c4 : Value} {fp : List Nat} (h : Box t W b c0 c1 c2 c3 c4) (ho : Off fp W W') (hb : b ∉ fp) : Box t W' b c0 c1 c2 c3 c4 := ⟨ho.keep h.heap hb⟩
theorem below_off {w W W' : World} {fp : List Nat} (h : Below w.heap.size w W) (ho : Off fp W W') (hf : ∀ q ∈ fp, w.heap.size ≤ q) : Below w.heap.size w W' := h.trans (ho.below h.size hf)
/-- A key is read. -/
theorem DSr.key {w W W' : World} {kd ct : Int} {lf : Bool} {nx : Int} {k v i u' : Value} {s : PS} {ra ra' : Option Addr} {rc rc' : Nat} {t R' : List UInt8} (h : DSr w W kd ct lf nx k v i s ra rc)
    (hs : StepSt W W' (w.heap.size + 1 + 1 + 1 + 1) (w.heap.size + 1) 1 k.ownBlock.toList #[.bool lf, k, v, i, .int .i64 nx] u' ra' rc' R') (hsl : Sl w (.slice ra' R'.length rc') R') (ht : TsOwn (w.heap.size + 1 + 1 + 1 + 1 + 1) W' u' (s.keys ++ [t])) (hw : ∀ q, u'.ownBlock = some q → k.ownBlock = some q ∨ W.heap.size ≤ q) :
    DSr w W' kd ct lf nx u' v i ⟨s.keys ++ [t], s.vals, s.kids, R'⟩ ra' rc' := by
  obtain ⟨usk, _, hok⟩ := h.own.keys.out
  obtain ⟨usv, _, hov⟩ := h.own.vals.out
  have hfp : ∀ q, q ∈ k.ownBlock.toList → w.heap.size + 1 + 1 + 1 + 1 + 1 ≤ q := fun q hq => (hok.lt q (by simpa using hq)).1
  have hnf : ∀ q, q ≤ w.heap.size + 1 + 1 + 1 + 1 → q ≠ w.heap.size + 1 + 1 + 1 + 1 → q ≠ w.heap.size + 1 → q ∉ (w.heap.size + 1 + 1 + 1 + 1) :: (w.heap.size + 1) :: k.ownBlock.toList := fun q h1 h2 h3 hm => by
    simp only [List.mem_cons] at hm
    rcases hm with hm | hm | hm
    · exact h2 hm
    · exact h3 hm
    · have := hfp q hm; omega
  have hty : ∀ q C t fr, w.heap.size + 1 + 1 + 1 + 1 + 1 ≤ q → W.heap[q]? = some (.cells C t fr) → t ≠ 28 → q ∉ (w.heap.size + 1 + 1 + 1 + 1) :: (w.heap.size + 1) :: k.ownBlock.toList := fun q C t fr h1 hq ht hm => by
    simp only [List.mem_cons] at hm
    rcases hm with hm | hm | hm
    · omega
    · omega
    · exact owns_ne hok hq ht (by simpa using hm)
  have hvn : ∀ q, v.ownBlock = some q → q ∉ (w.heap.size + 1 + 1 + 1 + 1) :: (w.heap.size + 1) :: k.ownBlock.toList := fun q hq hm => by
    have := (hov.lt q hq).1
    simp only [List.mem_cons] at hm
    rcases hm with hm | hm | hm
    · omega
    · omega
    · exact h.own.apart q (by simpa using hm) hq
  refine ⟨below_off h.below hs.off (fun q hq => ?_), h.y.keep hs.off (hnf _ (by omega) (by omega) (by omega)), ⟨by have := hs.box; simpa using this⟩, hs.off.keep h.kb (hnf _ (by omega) (by omega) (by omega)), hs.off.keep h.cb (hnf _ (by omega) (by omega) (by omega)), hs.rd, hsl, ⟨ht, h.own.vals.offB hs.off (fun q C fr h1 hq => hty q C 5 fr h1 hq (by decide)) hvn, ?_, fun q h1 h2 => ?_⟩, Nat.le_trans h.sz hs.off.size⟩
  · simp only [List.mem_cons] at hq
    rcases hq with hq | hq | hq
    · omega
    · omega
    · have := hfp q hq; omega
  · refine owns_stay h.own.kids (fun q hq => ?_)
    rcases h.own.kids.2 with ⟨e, _⟩ | ⟨g, cap, cur, e, hb, hg, _⟩
    · rw [e] at hq; simp [Value.ownBlock] at hq
    · have : g = q := by rw [e] at hq; simpa [Value.ownBlock] using hq
      subst this
      exact hs.off.block g (lt_of_heap hg) (hty g _ 3 _ hb hg (by decide))
  · rcases hw q h1 with h3 | h3
    · exact h.own.apart q h3 h2
    · have := (hov.lt q h2).2
      omega
/-- A value is read. -/
theorem DSr.val {w W W' : World} {kd ct : Int} {lf : Bool} {nx : Int} {k v i u' : Value} {s : PS} {ra ra' : Option Addr} {rc rc' : Nat} {t R' : List UInt8} (h : DSr w W kd ct lf nx k v i s ra rc)
    (hs : StepSt W W' (w.heap.size + 1 + 1 + 1 + 1) (w.heap.size + 1) 2 v.ownBlock.toList #[.bool lf, k, v, i, .int .i64 nx] u' ra' rc' R') (hsl : Sl w (.slice ra' R'.length rc') R') (ht : TsOwn (w.heap.size + 1 + 1 + 1 + 1 + 1) W' u' (s.vals ++ [t])) (hw : ∀ q, u'.ownBlock = some q → v.ownBlock = some q ∨ W.heap.size ≤ q) :
    DSr w W' kd ct lf nx k u' i ⟨s.keys, s.vals ++ [t], s.kids, R'⟩ ra' rc' := by
  obtain ⟨usk, _, hok⟩ := h.own.keys.out
  obtain ⟨usv, _, hov⟩ := h.own.vals.out
  have hfp : ∀ q, q ∈ v.ownBlock.toList → w.heap.size + 1 + 1 + 1 + 1 + 1 ≤ q := fun q hq => (hov.lt q (by simpa using hq)).1
  have hnf : ∀ q, q ≤ w.heap.size + 1 + 1 + 1 + 1 → q ≠ w.heap.size + 1 + 1 + 1 + 1 → q ≠ w.heap.size + 1 → q ∉ (w.heap.size + 1 + 1 + 1 + 1) :: (w.heap.size + 1) :: v.ownBlock.toList := fun q h1 h2 h3 hm => by
    simp only [List.mem_cons] at hm
    rcases hm with hm | hm | hm
    · exact h2 hm
    · exact h3 hm
    · have := hfp q hm; omega
  have hty : ∀ q C t fr, w.heap.size + 1 + 1 + 1 + 1 + 1 ≤ q → W.heap[q]? = some (.cells C t fr) → t ≠ 28 → q ∉ (w.heap.size + 1 + 1 + 1 + 1) :: (w.heap.size + 1) :: v.ownBlock.toList := fun q C t fr h1 hq ht hm => by
    simp only [List.mem_cons] at hm
    rcases hm with hm | hm | hm
    · omega
    · omega
    · exact owns_ne hov hq ht (by simpa using hm)
  have hvn : ∀ q, k.ownBlock = some q → q ∉ (w.heap.size + 1 + 1 + 1 + 1) :: (w.heap.size + 1) :: v.ownBlock.toList := fun q hq hm => by
    have := (hok.lt q hq).1
    simp only [List.mem_cons] at hm
    rcases hm with hm | hm | hm
    · omega
    · omega
    · exact h.own.apart q hq (by simpa using hm)
  refine ⟨below_off h.below hs.off (fun q hq => ?_), h.y.keep hs.off (hnf _ (by omega) (by omega) (by omega)), ⟨by have := hs.box; simpa using this⟩, hs.off.keep h.kb (hnf _ (by omega) (by omega) (by omega)), hs.off.keep h.cb (hnf _ (by omega) (by omega) (by omega)), hs.rd, hsl, ⟨h.own.keys.offB hs.off (fun q C fr h1 hq => hty q C 5 fr h1 hq (by decide)) hvn, ht, ?_, fun q h1 h2 => ?_⟩, Nat.le_trans h.sz hs.off.size⟩
  · simp only [List.mem_cons] at hq
    rcases hq with hq | hq | hq
    · omega
    · omega
    · have := hfp q hq; omega
  · refine owns_stay h.own.kids (fun q hq => ?_)
    rcases h.own.kids.2 with ⟨e, _⟩ | ⟨g, cap, cur, e, hb, hg, _⟩
    · rw [e] at hq; simp [Value.ownBlock] at hq
    · have : g = q := by rw [e] at hq; simpa [Value.ownBlock] using hq
      subst this
      exact hs.off.block g (lt_of_heap hg) (hty g _ 3 _ hb hg (by decide))
  · rcases hw q h2 with h3 | h3
    · exact h.own.apart q h1 h3
    · have := (hok.lt q h1).2
      omega
/-- A kid is read. -/
theorem DSr.kid {w W W' : World} {kd ct : Int} {lf : Bool} {nx : Int} {k v i u' : Value} {s : PS} {ra ra' : Option Addr} {rc rc' : Nat} {x : Int} {R' : List UInt8} (h : DSr w W kd ct lf nx k v i s ra rc)
    (hs : StepSt W W' (w.heap.size + 1 + 1 + 1 + 1) (w.heap.size + 1) 3 i.ownBlock.toList #[.bool lf, k, v, i, .int .i64 nx] u' ra' rc' R') (hsl : Sl w (.slice ra' R'.length rc') R') (ht : W'.ownsRow (w.heap.size + 1 + 1 + 1 + 1 + 1) 3 1 u' (s.kids.length + 1) (intCells (s.kids ++ [x]))) :
    DSr w W' kd ct lf nx k v u' ⟨s.keys, s.vals, s.kids ++ [x], R'⟩ ra' rc' := by
  obtain ⟨usk, _, hok⟩ := h.own.keys.out
  obtain ⟨usv, _, hov⟩ := h.own.vals.out
  have hoi : W.ownsRow (w.heap.size + 1 + 1 + 1 + 1 + 1) 3 1 i s.kids.length (intCells s.kids) := h.own.kids
  have hfp : ∀ q, q ∈ i.ownBlock.toList → w.heap.size + 1 + 1 + 1 + 1 + 1 ≤ q := fun q hq => (hoi.lt q (by simpa using hq)).1
  have hnf : ∀ q, q ≤ w.heap.size + 1 + 1 + 1 + 1 → q ≠ w.heap.size + 1 + 1 + 1 + 1 → q ≠ w.heap.size + 1 → q ∉ (w.heap.size + 1 + 1 + 1 + 1) :: (w.heap.size + 1) :: i.ownBlock.toList := fun q h1 h2 h3 hm => by
    simp only [List.mem_cons] at hm
    rcases hm with hm | hm | hm
    · exact h2 hm
    · exact h3 hm
    · have := hfp q hm; omega
  have hty : ∀ q C t fr, w.heap.size + 1 + 1 + 1 + 1 + 1 ≤ q → W.heap[q]? = some (.cells C t fr) → t ≠ 3 → q ∉ (w.heap.size + 1 + 1 + 1 + 1) :: (w.heap.size + 1) :: i.ownBlock.toList := fun q C t fr h1 hq ht hm => by
    simp only [List.mem_cons] at hm
    rcases hm with hm | hm | hm
    · omega
    · omega
    · exact owns_ne hoi hq ht (by simpa using hm)
  have row28 : ∀ {u : Value} {n : Nat} {us : List Value}, W.ownsRow (w.heap.size + 1 + 1 + 1 + 1 + 1) 28 1 u n us → ∀ q, u.ownBlock = some q → q ∉ (w.heap.size + 1 + 1 + 1 + 1) :: (w.heap.size + 1) :: i.ownBlock.toList := fun {u n us} ho q hq => by
    rcases ho.2 with ⟨e, _⟩ | ⟨g, cap, cur, e, hb, hg, _⟩
    · rw [e] at hq; simp [Value.ownBlock] at hq
    · have : g = q := by rw [e] at hq; simpa [Value.ownBlock] using hq
      subst this
      exact hty g _ 28 _ hb hg (by decide)
  refine ⟨below_off h.below hs.off (fun q hq => ?_), h.y.keep hs.off (hnf _ (by omega) (by omega) (by omega)), ⟨by have := hs.box; simpa using this⟩, hs.off.keep h.kb (hnf _ (by omega) (by omega) (by omega)), hs.off.keep h.cb (hnf _ (by omega) (by omega) (by omega)), hs.rd, hsl, ⟨h.own.keys.offB hs.off (fun q C fr h1 hq => hty q C 5 fr h1 hq (by decide)) (row28 hok), h.own.vals.offB hs.off (fun q C fr h1 hq => hty q C 5 fr h1 hq (by decide)) (row28 hov), ?_, h.own.apart⟩, Nat.le_trans h.sz hs.off.size⟩
  · simp only [List.mem_cons] at hq
    rcases hq with hq | hq | hq
    · omega
    · omega
    · have := hfp q hq; omega
  · show W'.ownsRow _ 3 1 u' (s.kids ++ [x]).length _
    rw [List.length_append]
    exact ht
end Go.Proofs.Ytjcobejaldfibaa
