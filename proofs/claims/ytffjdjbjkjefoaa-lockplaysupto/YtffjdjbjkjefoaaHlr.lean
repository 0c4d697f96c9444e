/- Holders of any name. -/
import Derived.Test.YtffjdjbjkjefoaaHln
namespace Go.Proofs.Ytffjdjbjkjefoaa
open Go.RowKit Go.WideAt Go.Shelf
set_option linter.unusedVariables false
set_option linter.unusedSimpArgs false

theorem keysSome (b : Nat) (w : World) : Calls Try.prog 35 #[.map (some b)] w fun e w' => e = .returned (.func (.func 48) #[] #[.pointer (some ⟨w.heap.size, 0, none⟩)]) ∧ w' = w.alloc (.cells #[.map (some b)] 63) :=
  (callsIn_wide (n := 6)).1 (AnyZI.keys_in { Try.keysI with } Fence.wide 6 trivial rfl (some b) w)
theorem keys_spec {w : World} {b n : Nat} {D : DataW Value} (h : w.ownsMap Try.prog 3 rV b n D) : (intKeys D).Nodup ∧ ∀ x, x ∈ intKeys D ↔ Maps.has D (.int .i64 x) = true := by
  obtain ⟨es, hD, hpw, _⟩ := h.entries keyed3
  obtain ⟨es', hD', hko⟩ := h.keysOf
  obtain rfl : es = es' := by rw [hD] at hD'; simpa using hD'
  subst hD
  have hk : ∀ p ∈ es, ∃ x, p.1 = .int .i64 x := fun p hp => by
    obtain ⟨v, hv⟩ := hko p hp
    obtain ⟨x, _, hx, _⟩ := Maps.keyOf_i64 Try.underlying3 hv
    exact ⟨x, hx⟩
  refine ⟨?_, fun x => ?_⟩
  · unfold intKeys
    refine List.pairwise_map.2 (hpw.imp_of_mem fun {p q} hp' hq' hne e => hne ?_)
    obtain ⟨a, ha⟩ := hk p hp'
    obtain ⟨c, hc⟩ := hk q hq'
    rw [ha, hc] at e ⊢
    exact congrArg _ e
  · rw [Maps.has_eq, List.any_eq_true]
    unfold intKeys
    rw [List.mem_map]
    constructor
    · rintro ⟨p, hp', rfl⟩
      obtain ⟨a, ha⟩ := hk p hp'
      exact ⟨p, hp', by rw [ha]; simp [Lit.sameKey, Go.intOf]⟩
    · rintro ⟨p, hp', hs⟩
      obtain ⟨a, ha⟩ := hk p hp'
      rw [ha] at hs
      exact ⟨p, hp', by rw [ha]; simpa [Lit.sameKey, Go.intOf] using hs⟩
/-- Who holds something on a name, rising. -/
structure HoldIs (m : Held) (s : List UInt8) (A : List Int) : Prop where
  up : A.Pairwise (· < ·)
  iff : ∀ x, x ∈ A ↔ m x s ≠ none
theorem HoldIs.one {m : Held} {s : List UInt8} {A A' : List Int} (h : HoldIs m s A) (h' : HoldIs m s A') : A' = A := rising_ext h'.up h.up fun x => (h'.iff x).trans (h.iff x).symm
theorem sorted_up {l : List Int} (h : l.Nodup) : (l.mergeSort fun x y => decide (x ≤ y)).Pairwise (· < ·) := by
  have h1 : (l.mergeSort fun x y => decide (x ≤ y)).Nodup := (List.mergeSort_perm l _).nodup_iff.2 h
  have h2 := List.pairwise_mergeSort (le := fun x y : Int => decide (x ≤ y)) (fun a b c h1 h2 => by simp only [decide_eq_true_eq] at *; omega) (fun a b => by simp only [Bool.or_eq_true, decide_eq_true_eq]; omega) l
  refine List.Pairwise.imp₂ (fun a b hab hne => ?_) h2 h1
  simp only [decide_eq_true_eq] at hab
  omega
theorem sortedSome (w : World) (Bm b n : Nat) (f : Lit → Option Value) (hB : Bm < w.heap.size) (hm : w.cell? ⟨Bm, 0, none⟩ = some (.map (some b))) (hM : MapV w 3 b n f) (hn : n ≤ 1000000000000) :
    Calls Try.prog 34 #[.func (.func 48) #[] #[.pointer (some ⟨Bm, 0, none⟩)]] w fun e w' => ∃ (v : Value) (A : List Int), e = .returned v ∧ w'.ownsRow w.heap.size 3 1 v A.length (A.map icell) ∧ A.Pairwise (· < ·) ∧ (∀ x, x ∈ A ↔ f (.int .i64 x) ≠ none) ∧ Below w.heap.size w w' := by
  obtain ⟨D, hown, hrd⟩ := hM
  obtain ⟨hnd, hmem⟩ := keys_spec hown
  have hsz := World.ownsMap.size_le hown
  have hseq : SeqGives Fence.wide (6 - 1 - 1 - 1) Try.prog 48 #[.pointer (some ⟨Bm, 0, none⟩)] encZ (fun ss : List Int => ss.Perm (intKeys D)) (Maps.size D) w := AnyZI.keys_gives { Try.keys1I with } Fence.wide 3 trivial rfl (by omega) Bm b n D w hB hm hown
  have hmx : (1000000000000 : Nat) ≤ maxLen := by decide
  refine ((callsIn_wide (n := 6)).1 (AnyZI.sorted_in { Try.sortedI with } Fence.wide 6 trivial trivial trivial trivial rfl (by omega) sortsI_in Try.enters41 48 _ trivial Try.enters48 _ (Maps.size D) (by omega) (by omega) w hseq)).mono ?_
  rintro e w' ⟨v, ss, rfl, hp, hr, _, hb⟩
  refine ⟨v, ss.mergeSort fun x y => decide (x ≤ y), rfl, ?_, sorted_up (hp.nodup_iff.2 hnd), fun x => ?_, hb⟩
  · rw [List.length_mergeSort]
    exact hr
  · rw [(List.mergeSort_perm ss _).mem_iff, hp.mem_iff, hmem x, (hrd _ (kl_int x)).1]
    cases f (.int .i64 x) <;> simp
set_option maxRecDepth 100000 in
theorem holders_any {w : World} {base : Nat} {B : Tb} {m : Held} {N : Nat} (hT : TabIs w base B m N) {s : List UInt8} (hs : NameOk s) (hN : N ≤ 1000000000000) :
    Calls Try.prog 13 #[.pointer (some ⟨B.t, 0, none⟩), scell s] w fun e w' => ∃ v A, e = .returned v ∧ w'.ownsRow w.heap.size 3 1 v A.length (A.map icell) ∧ HoldIs m s A ∧ Below w.heap.size w w' := by
  cases hb : B.on s with
  | none =>
    refine (holders_none hT hs hb).mono ?_
    rintro e w' ⟨rfl, hb'⟩
    exact ⟨_, [], rfl, ⟨rfl, .inl ⟨rfl, rfl⟩⟩, ⟨List.Pairwise.nil, fun x => by simp [hT.non s hb x]⟩, hb'⟩
  | some b =>
    have HLK := hide (hT.lookOn hs)
    unfold onV at HLK
    rw [hb] at HLK
    have c0 := hT.cells0
    have HM := hide (hT.inner s b hb)
    have HK := hide (keysSome b w)
    have HB : Hid (Below w.heap.size w (w.alloc (.cells #[.map (some b)] 63))) := (Below.refl _ _).alloc (Nat.le_refl _) _
    have HS := hide (sortedSome (w.alloc (.cells #[.map (some b)] 63)) w.heap.size b N _ (by simp) (by rw [cell_row (heap_alloc_new w _)]; rfl) (HM.out.stay (HB.out.block _ HM.out.lt)) hN)
    clear hT hb
    generalize w.alloc (.cells #[.map (some b)] 63) = w1 at *
    go_enter Try.func13, Try.ntmps13
    go_wp2_with (first
      | (refine wpList_look rfl 53 _ _ false rfl _ _ _ rfl rfl HLK.out ?_)
      | (go_at_call 35; refine HK.out.mono ?_; rintro e w2 ⟨rfl, hw2⟩; have hw2 := hw2.symm; subst hw2)
      | (go_at_call 34; refine HS.out.mono ?_; rintro e w3 ⟨v, A, rfl, hr, hu, hi, hb3⟩))
    go_ret
    refine ⟨v, A, rfl, owns_mono hr HB.out.size, ⟨hu, fun x => ?_⟩, HB.out.trans (hb3.mono HB.out.size)⟩
    rw [hi x]
    show (m x s).map _ ≠ none ↔ _
    cases m x s <;> simp
end Go.Proofs.Ytffjdjbjkjefoaa
