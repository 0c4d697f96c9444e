/- The law's own check. -/
import Derived.Test.YtffjdjbjkjefoaaTak
namespace Go.Proofs.Ytffjdjbjkjefoaa
open Go.RowKit Go.WideAt
set_option linter.unusedVariables false
set_option linter.unusedSimpArgs false

theorem wants1 {w : World} {b : Nat} {s : List UInt8} {md : Int} (hb : w.heap[b]? = some (.cells #[scell s, .int .i64 md] 31 (0, 0))) (hs : NameOk s) (hmd : In64 md) : WantsAt w (some ⟨b, 0, none⟩) [(s, md)] := by
  refine ⟨by simp, fun i x hx => ?_⟩
  cases i with
  | zero =>
    simp at hx
    subst hx
    refine ⟨hs, hmd, b, 0, rfl, lt_of_heap hb, fun j u hu => ?_⟩
    rw [cell_row hb]
    simpa using hu
  | succ i => simp at hx
theorem take1 {w : World} {base : Nat} {B : Tb} {m : Held} {N : Nat} (hT : TabIs w base B m N) {id : Int} (hid : In64 id) {b : Nat} {s : List UInt8} {md : Int} (hb : w.heap[b]? = some (.cells #[scell s, .int .i64 md] 31 (0, 0))) (hs : NameOk s) (hmd : In64 md) (hN : N + 1 ≤ 5864062014805) :
    Calls Try.prog 9 #[.pointer (some ⟨B.t, 0, none⟩), .int .i64 id, .slice (some ⟨b, 0, none⟩) 1 1] w fun e w' => ∃ A B' m', Against m (grownF (m id) [(s, md)]) id A ∧ e = .returned (.bool A.isEmpty) ∧ TabIs w' base B' m' (N + 1) ∧ Moves B B' w w' ∧ m' = if A = [] then heldN m id (grownF (m id) [(s, md)]) else m :=
  take_any hT hid (wants1 hb hs hmd) (c := 1) hN
theorem ask1 {w : World} {base : Nat} {B : Tb} {m : Held} {N : Nat} (hT : TabIs w base B m N) {id : Int} (hid : In64 id) {b : Nat} {s : List UInt8} {md : Int} (hb : w.heap[b]? = some (.cells #[scell s, .int .i64 md] 31 (0, 0))) (hs : NameOk s) (hmd : In64 md) (hN : N ≤ 5864062014805) :
    Calls Try.prog 11 #[.pointer (some ⟨B.t, 0, none⟩), .int .i64 id, .slice (some ⟨b, 0, none⟩) 1 1] w fun e w' => ∃ v A, e = .returned v ∧ w'.ownsRow w.heap.size 3 1 v A.length (A.map icell) ∧ Against m (grownF (m id) [(s, md)]) id A ∧ A.length ≤ N ∧ Below w.heap.size w w' :=
  ask_any hT hid (wants1 hb hs hmd) (c := 1) hN
theorem Against.none {m : Held} {g : List UInt8 → Option Int} {id : Int} {A : List Int} (h : Against m g id A) (hb : ∀ x s, ¬ Bad m g id x s) : A = [] := by
  cases A with
  | nil => rfl
  | cons x A =>
    obtain ⟨s, hs⟩ := (h.iff x).1 (by simp)
    exact absurd hs (hb x s)
theorem grown1 (m : List UInt8 → Option Int) (s t : List UInt8) (md : Int) (h : isMode md = true) : grownF m [(s, md)] t = if t = s then some (join (join ((m s).getD 0) 0) md) else none := by
  unfold grownF
  simp only [List.foldl_cons, List.foldl_nil]
  unfold grow1
  rw [if_pos h]
  rfl
def m1 : Held := fun x s => if x = 1 ∧ s = [] then some 2 else none
def m2 : Held := fun x s => if x = 2 ∧ s = [] then some 1 else m1 x s
theorem aw1 {A : List Int} (h : Against (fun _ _ => none) (grownF ((fun _ _ => none : Held) 1) [([], 2)]) 1 A) : A = [] := h.none fun x s => by
  rintro ⟨_, _, _, _, h, _⟩
  cases h
theorem aw1m : heldN (fun _ _ => none) 1 (grownF ((fun _ _ => none : Held) 1) [([], 2)]) = m1 := by
  funext x s
  unfold heldN m1
  rw [grown1 _ _ _ _ rfl]
  by_cases e : x = 1
  · by_cases e2 : s = []
    · simp [e, e2]; rfl
    · simp [e, e2]
  · simp [e]
theorem aw2 {A : List Int} (h : Against m1 (grownF (m1 2) [([], 1)]) 2 A) : A = [] := h.none fun x s => by
  rintro ⟨_, md, h, h1, h2, h3⟩
  rw [grown1 _ _ _ _ rfl] at h1
  unfold m1 at h2
  by_cases e : s = []
  · subst e
    have e1 : md = 1 := by
      have : some (1 : Int) = some md := h1
      exact (Option.some.inj this).symm
    by_cases e2 : x = 1
    · simp [e2] at h2
      subst e1 h2
      exact absurd h3 (by decide)
    · simp [e2] at h2
  · simp [e] at h1
theorem aw2m : heldN m1 2 (grownF (m1 2) [([], 1)]) = m2 := by
  funext x s
  unfold heldN m2
  rw [grown1 _ _ _ _ rfl]
  by_cases e : x = 2
  · subst e
    by_cases e2 : s = []
    · subst e2; rfl
    · simp [e2, m1]
  · simp [e]
theorem aw3 {A : List Int} (h : Against m2 (grownF (m2 3) [([], 5)]) 3 A) : A = [1, 2] := by
  refine rising_ext h.up (by simp) fun x => (h.iff x).trans ?_
  have hg : ∀ t, grownF (m2 3) [([], 5)] t = if t = [] then some 5 else none := fun t => by rw [grown1 _ _ _ _ rfl]; rfl
  constructor
  · rintro ⟨s, _, md, h, h1, h2, h3⟩
    rw [hg] at h1
    unfold m2 m1 at h2
    by_cases e : s = []
    · subst e
      by_cases e2 : x = 2
      · simp [e2]
      · by_cases e3 : x = 1
        · simp [e3]
        · simp [e2, e3] at h2
    · simp [e] at h1
  · intro hx
    have : x = 1 ∨ x = 2 := by simpa using hx
    rcases this with rfl | rfl
    · exact ⟨[], by decide, 5, 2, by rw [hg]; rfl, rfl, by decide⟩
    · exact ⟨[], by decide, 5, 1, by rw [hg]; rfl, rfl, by decide⟩
theorem row12 {w : World} {base : Nat} {v : Value} (h : w.ownsRow base 3 1 v [(1 : Int), 2].length ([1, 2].map icell)) : ∃ g c, v = .slice (some ⟨g, 0, none⟩) 2 c ∧ w.cell? ⟨g, 0, none⟩ = some (.int .i64 1) := by
  rcases own_of h with ⟨_, h1, _⟩ | ⟨g, cap, cur, rfl, _, h2, _, _, _, h6⟩
  · cases h1
  · refine ⟨g, cap, rfl, ?_⟩
    have := h.cellAt (g := g) (cap := cap) 0 (by simp)
    simpa [icell] using this
theorem buildWant (x : ByteArray) (n : Int) (w : World) : (Instr.buildSlice 22 1 #[(0, .agg #[.string x, .int .i64 n])]).run Try.prog w = .ok (.slice (some ⟨w.heap.size, 0, none⟩) 1 1) (w.alloc (.cells #[.string x, .int .i64 n] 31)) := by kernel_rfl
theorem alloc_below (w : World) (o : Obj) : Below w.heap.size w (w.alloc o) := (Below.refl _ _).alloc (Nat.le_refl _) o
theorem moves_below {b : Nat} {B B' : Tb} {w0 w w' : World} {base : Nat} {m : Held} {N : Nat} (h : Below b w0 w) (hb : b ≤ w.heap.size) (hT : TabIs w base B m N) (hbase : b ≤ base) (hM : Moves B B' w w') : Below b w0 w' :=
  h.trans ⟨hM.os, hM.tape, hM.output, hM.size, fun k hk => hM.block k (by omega) (fun ho => by have := hT.above (.inr ho); omega)⟩
set_option maxHeartbeats 2000000 in
set_option maxRecDepth 100000 in
theorem awake_any (w : World) : Calls Try.prog 14 #[] w fun e w' => e = .returned (.bool true) ∧ Below w.heap.size w w' := by
  have HNEW := hide (new_any w)
  have HF : Hid (∀ a b w, Calls Try.prog 15 #[.int .i64 a, .int .i64 b] w fun e w' => e = .returned (.bool (fits a b)) ∧ Below w.heap.size w w') := fits_any
  have HJ := hide (@join_any)
  go_enter Try.func14, Try.ntmps14
  go_upto_region 4 with (go_at_call 8; refine HNEW.out.mono ?_; rintro e x1 ⟨B, rfl, hT, hB⟩; have HT1 := hide hT; have HB1 := hide hB; clear hT hB)
  have hb4 := buildWant ⟨#[]⟩ 2 x1
  have HT4 := hide (HT1.out.belowW (alloc_below x1 (.cells #[.string ⟨#[]⟩, .int .i64 2] 31)))
  have HC4 := hide (take1 HT4.out (id := 1) ⟨by omega, by omega⟩ (s := []) (md := 2) (heap_alloc_new x1 _) (by show 0 ≤ _; omega) ⟨by omega, by omega⟩ (by omega))
  go_upto_region 5 with (go_at_call 9; refine HC4.out.mono ?_; rintro e x2 ⟨A, B2, m', hA, rfl, hT, hM, hm'⟩; have hA0 := aw1 hA; subst hA0; rw [if_pos rfl, aw1m] at hm'; subst hm'; have HT2 := hide hT; have HM2 := hide hM; have HBT : Hid (B2.t = B.t) := hM.t; clear hT hM hA)
  have hb5 := buildWant ⟨#[]⟩ 1 x2
  have HT5 := hide (HT2.out.belowW (alloc_below x2 (.cells #[.string ⟨#[]⟩, .int .i64 1] 31)))
  have HC5 := hide (take1 HT5.out (id := 2) ⟨by omega, by omega⟩ (s := []) (md := 1) (heap_alloc_new x2 _) (by show 0 ≤ _; omega) ⟨by omega, by omega⟩ (by omega))
  rw [HBT.out] at HC5
  go_upto_region 6 with (go_at_call 9; refine HC5.out.mono ?_; rintro e x3 ⟨A, B3, m', hA, rfl, hT, hM, hm'⟩; have hA0 := aw2 hA; subst hA0; rw [if_pos rfl, aw2m] at hm'; subst hm'; have HT3 := hide hT; have HM3 := hide hM; have HBT3 : Hid (B3.t = B.t) := hM.t.trans HBT.out; clear hT hM hA)
  have hb6 := buildWant ⟨#[]⟩ 5 x3
  have HT6 := hide (HT3.out.belowW (alloc_below x3 (.cells #[.string ⟨#[]⟩, .int .i64 5] 31)))
  have HC6 := hide (ask1 HT6.out (id := 3) ⟨by omega, by omega⟩ (s := []) (md := 5) (heap_alloc_new x3 _) (by show 0 ≤ _; omega) ⟨by omega, by omega⟩ (by omega))
  rw [HBT3.out] at HC6
  go_upto_region 7 with (go_at_call 11; refine HC6.out.mono ?_; rintro e x4 ⟨v4, A, rfl, hr, hA, _, hB⟩; have hA0 := aw3 hA; subst hA0; obtain ⟨g, c4, rfl, hc4⟩ := row12 hr; have HB4 := hide hB; clear hA hr hB)
  have HBW : Hid (Below w.heap.size w x4) := by
    have h1 := HB1.out
    have h2 : Below w.heap.size w (x1.alloc (.cells #[.string ⟨#[]⟩, .int .i64 2] 31)) := h1.trans ((alloc_below x1 _).mono h1.size)
    have h3 := moves_below h2 h2.size HT4.out (Nat.le_refl _) HM2.out
    have h4 : Below w.heap.size w (x2.alloc (.cells #[.string ⟨#[]⟩, .int .i64 1] 31)) := h3.trans ((alloc_below x2 _).mono h3.size)
    have h5 := moves_below h4 h4.size HT5.out (Nat.le_refl _) HM3.out
    have h6 : Below w.heap.size w (x3.alloc (.cells #[.string ⟨#[]⟩, .int .i64 5] 31)) := h5.trans ((alloc_below x3 _).mono h5.size)
    exact h6.trans (HB4.out.mono h6.size)
  have hj : join 2 3 = 4 := by decide
  have hf : fits 2 2 = true := by decide
  clear hb4 hb5 hb6 HC4 HC5 HC6
  go_wp2_with (first
    | (go_at_call 17; refine (HJ.out _ _ _).mono ?_; rintro e x5 ⟨rfl, hB5⟩; rw [hj])
    | (go_at_call 15; refine (HF.out _ _ _).mono ?_; rintro e x6 ⟨rfl, hB6⟩; rw [hf]))
  go_ret
  exact ⟨rfl, (HBW.out.trans (hB5.mono HBW.out.size)).trans (hB6.mono (Nat.le_trans HBW.out.size hB5.size))⟩
end Go.Proofs.Ytffjdjbjkjefoaa
