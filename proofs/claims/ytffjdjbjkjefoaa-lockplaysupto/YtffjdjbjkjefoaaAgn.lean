/- Who keeps a transaction from what it wants. -/
import Derived.Test.YtffjdjbjkjefoaaGrow
import Derived.Test.YtffjdjbjkjefoaaSrt
namespace Go.Proofs.Ytffjdjbjkjefoaa
open Go.RowKit Go.WideAt
set_option linter.unusedVariables false
set_option linter.unusedSimpArgs false

/-! ### Lists alone -/
/-- x holds on s what does not fit what is wanted. -/
def Bad (m : Held) (g : List UInt8 → Option Int) (id x : Int) (s : List UInt8) : Prop := x ≠ id ∧ ∃ md h, g s = some md ∧ m x s = some h ∧ fits h md = false
structure Seen (m : Held) (g : List UInt8 → Option Int) (id : Int) (P : List (Int × List UInt8)) (d : Int → List UInt8 → Prop) : Prop where
  nodup : P.Nodup
  sound : ∀ p ∈ P, d p.1 p.2 ∧ Bad m g id p.1 p.2
  all : ∀ x s, d x s → Bad m g id x s → (x, s) ∈ P
section
variable {m : Held} {g : List UInt8 → Option Int} {id : Int} {P : List (Int × List UInt8)} {d d' : Int → List UInt8 → Prop}
theorem Seen.nil (h : ∀ x s, Bad m g id x s → ¬ d x s) : Seen m g id [] d := ⟨by simp, by simp, fun x s h1 h2 => absurd h1 (h x s h2)⟩
theorem Seen.same (h : Seen m g id P d) (hd : ∀ x s, Bad m g id x s → (d' x s ↔ d x s)) : Seen m g id P d' :=
  ⟨h.nodup, fun p hp => ⟨(hd _ _ (h.sound p hp).2).2 (h.sound p hp).1, (h.sound p hp).2⟩, fun x s h1 h2 => h.all x s ((hd x s h2).1 h1) h2⟩
theorem Seen.skip (h : Seen m g id P d) {x0 : Int} {s0 : List UInt8} (hb : ¬ Bad m g id x0 s0) (hd : ∀ x s, d' x s ↔ d x s ∨ (x = x0 ∧ s = s0)) : Seen m g id P d' :=
  h.same fun x s hB => by
    rw [hd]
    constructor
    · rintro (h | ⟨rfl, rfl⟩)
      · exact h
      · exact absurd hB hb
    · exact .inl
theorem Seen.add (h : Seen m g id P d) {x0 : Int} {s0 : List UInt8} (hn : ¬ d x0 s0) (hb : Bad m g id x0 s0) (hd : ∀ x s, d' x s ↔ d x s ∨ (x = x0 ∧ s = s0)) : Seen m g id (P ++ [(x0, s0)]) d' := by
  refine ⟨?_, ?_, ?_⟩
  · rw [List.nodup_append]
    refine ⟨h.nodup, by simp, fun a ha b hb' => ?_⟩
    rw [List.mem_singleton] at hb'
    subst hb'
    rintro rfl
    exact hn (h.sound _ ha).1
  · intro p hp
    rcases List.mem_append.1 hp with hp | hp
    · exact ⟨(hd _ _).2 (.inl (h.sound p hp).1), (h.sound p hp).2⟩
    · rw [List.mem_singleton] at hp
      subst hp
      exact ⟨(hd _ _).2 (.inr ⟨rfl, rfl⟩), hb⟩
  · intro x s h1 h2
    rcases (hd x s).1 h1 with h1 | ⟨rfl, rfl⟩
    · exact List.mem_append_left _ (h.all x s h1 h2)
    · simp
end
theorem Seen.len {w : World} {base : Nat} {B : Tb} {m : Held} {N : Nat} (hT : TabIs w base B m N) {g : List UInt8 → Option Int} {id : Int} {P : List (Int × List UInt8)} {d : Int → List UInt8 → Prop} (h : Seen m g id P d) : P.length ≤ N := by
  obtain ⟨l, h1, h2⟩ := hT.all
  refine Nat.le_trans (List.Nodup.length_le_of_subset h.nodup fun p hp => ?_) h1
  obtain ⟨_, _, md, h', _, h3, _⟩ := (h.sound p hp)
  exact h2 p.1 p.2 (by rw [h3]; simp)
theorem Seen.lenK {m : Held} {K : Nat} (hK : ∃ l : List (Int × List UInt8), l.length ≤ K ∧ ∀ x s, m x s ≠ none → (x, s) ∈ l) {g : List UInt8 → Option Int} {id : Int} {P : List (Int × List UInt8)} {d : Int → List UInt8 → Prop} (h : Seen m g id P d) : P.length ≤ K := by
  obtain ⟨l, h1, h2⟩ := hK
  refine Nat.le_trans (List.Nodup.length_le_of_subset h.nodup fun p hp => ?_) h1
  obtain ⟨_, _, md, h', _, h3, _⟩ := (h.sound p hp)
  exact h2 p.1 p.2 (by rw [h3]; simp)
/-- The answer. -/
structure Against (m : Held) (g : List UInt8 → Option Int) (id : Int) (A : List Int) : Prop where
  up : A.Pairwise (· < ·)
  iff : ∀ x, x ∈ A ↔ ∃ s, Bad m g id x s
theorem Seen.against {m : Held} {g : List UInt8 → Option Int} {id : Int} {P : List (Int × List UInt8)} {d : Int → List UInt8 → Prop} (h : Seen m g id P d) (hd : ∀ x s, Bad m g id x s → d x s) : Against m g id (uniq (P.map Prod.fst)) := by
  obtain ⟨h1, h2⟩ := uniq_spec (P.map Prod.fst)
  refine ⟨h1, fun x => (h2 x).trans ?_⟩
  constructor
  · intro hx
    obtain ⟨p, hp, rfl⟩ := List.mem_map.1 hx
    exact ⟨p.2, (h.sound p hp).2⟩
  · rintro ⟨s, hs⟩
    exact List.mem_map.2 ⟨(x, s), h.all x s (hd x s hs) hs, rfl⟩
theorem uniq_len (A : List Int) : (uniq A).length ≤ A.length := by
  unfold uniq
  refine Nat.le_trans (Lib.compact_length_le _) ?_
  rw [List.length_mergeSort]
  exact Nat.le_refl _

/-! ### A range over a map that may be nil -/
def RngO (w : World) (k : TypeId) (ob : Option Nat) (r n : Nat) (f : Lit → Option Value) (left : Lit → Bool) (cnt : Nat) : Prop :=
  match ob with
  | none => w.heap[r]? = some (.mapIter none 0 #[] 0) ∧ (∀ kl, left kl = false) ∧ cnt = 0
  | some b => RngV w k b r n f left cnt
def leftO (w : World) (ob : Option Nat) (r : Nat) : Nat :=
  match ob with
  | none => 0
  | some b => w.rangeLeft b r
theorem RngO.left_eq {w : World} {k : TypeId} {ob : Option Nat} {r n : Nat} {f : Lit → Option Value} {left : Lit → Bool} {cnt : Nat} (h : RngO w k ob r n f left cnt) : leftO w ob r = cnt := by
  cases ob with
  | none => exact h.2.2.symm
  | some b => exact RngV.left_eq h
theorem RngO.isIter {w : World} {k : TypeId} {ob : Option Nat} {r n : Nat} {f : Lit → Option Value} {left : Lit → Bool} {cnt : Nat} (h : RngO w k ob r n f left cnt) : ∃ a c d e, w.heap[r]? = some (.mapIter a c d e) := by
  cases ob with
  | none => exact ⟨_, _, _, _, h.1⟩
  | some b => exact RngV.isIter h
theorem RngO.stay {w w' : World} {k : TypeId} {ob : Option Nat} {r n : Nat} {f : Lit → Option Value} {left : Lit → Bool} {cnt : Nat} (h : RngO w k ob r n f left cnt) (hb : ∀ b, ob = some b → w'.heap[b]? = w.heap[b]?) (hr : w'.heap[r]? = w.heap[r]?) : RngO w' k ob r n f left cnt := by
  cases ob with
  | none => exact ⟨hr.trans h.1, h.2⟩
  | some b => exact RngV.stay h (hb b rfl) hr
theorem run_range_nil {w : World} {t k e : TypeId} (ht : Try.prog.underlying t = some (.map k e)) : (Instr.range t (.map none)).run Try.prog w = .ok (.pointer (some ⟨w.heap.size, 0, none⟩)) (w.alloc (.mapIter none 0 #[] 0)) := by
  unfold Instr.range
  simp [run_underlying ht, go_sem]
theorem RngO.next {w : World} {k : TypeId} {ob : Option Nat} {r n : Nat} {f : Lit → Option Value} {left : Lit → Bool} {cnt : Nat} (h : RngO w k ob r n f left cnt) (K : Maps.Keyed Try.prog k) (ty : TypeId) :
    (cnt = 0 ∧ (∀ kl, left kl = false) ∧ (Instr.next (.pointer (some ⟨r, 0, none⟩)) false ty).run Try.prog w = .ok (.tuple #[.bool false]) w) ∨
    ∃ key v kl w' cnt', keyOf Try.prog k key = some kl ∧ left kl = true ∧ f kl = some v ∧ (Instr.next (.pointer (some ⟨r, 0, none⟩)) false ty).run Try.prog w = .ok (.tuple #[.bool true, key, v]) w' ∧
      RngO w' k ob r n f (fun x => left x && !x.sameKey kl) cnt' ∧ cnt' < cnt ∧ w.grownBy w' (some r) ∧ w'.heap.size = w.heap.size ∧ (Instr.entry (.pointer (some ⟨r, 0, none⟩))).run Try.prog w' = .ok (.tuple #[key, v]) w' := by
  cases ob with
  | none =>
    refine .inl ⟨h.2.2, h.2.1, ?_⟩
    have h1 := h.1
    unfold Instr.next
    have h2 : (getObj r).run Try.prog w = .ok (.mapIter none 0 #[] 0) w := by simp [getObj, Sem.run, h1]
    simp [go_sem, h2, Result.andThen]
  | some b => exact RngV.next h K ty
theorem TabIs.rangeIn {w : World} {base : Nat} {B : Tb} {m : Held} {N : Nat} (h : TabIs w base B m N) (s : List UInt8) :
    ∃ w' left cnt, (Instr.range 63 (onV B s)).run Try.prog w = .ok (.pointer (some ⟨w.heap.size, 0, none⟩)) w' ∧ RngO w' 3 (B.on s) w.heap.size N (ofI fun x => (m x s).map (Value.int .i64)) left cnt ∧ (∀ x, left (.int .i64 x) = (m x s).isSome) ∧ w.grownBy w' none ∧ w'.heap.size = w.heap.size + 1 := by
  unfold onV
  cases hb : B.on s with
  | none =>
    refine ⟨_, fun _ => false, 0, run_range_nil Try.underlying63, ⟨heap_alloc_new _ _, fun _ => rfl, rfl⟩, fun x => by rw [h.non s hb x]; rfl, ?_, by simp⟩
    have := (Below.refl w.heap.size w).alloc (Nat.le_refl _) (.mapIter none 0 #[] 0)
    exact ⟨this.os, this.tape, this.output, this.size, fun k hk _ => this.block k hk⟩
  | some b =>
    obtain ⟨w', left, cnt, h1, h2, h3, h4, h5, h6⟩ := (h.inner s b hb).range keyed3 Try.underlying63
    refine ⟨w', left, cnt, h1, h2, fun x => ?_, h5, h6⟩
    rw [h4 _ (kl_int x)]
    show ((m x s).map (Value.int .i64)).isSome = _
    cases m x s <;> rfl
end Go.Proofs.Ytffjdjbjkjefoaa
