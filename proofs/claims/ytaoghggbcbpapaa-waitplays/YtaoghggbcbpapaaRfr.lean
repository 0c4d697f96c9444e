/- The document's Free. -/
import Derived.Test.YtaoghggbcbpapaaRcy
namespace Go.Proofs.Ytaoghggbcbpapaa
open Go.RowKit
set_option linter.unusedVariables false
set_option linter.unusedSimpArgs false

theorem rcyc_len {w : World} {a : Option Addr} {c n : Nat} {E : List (Int × Int)} (hE : EdgesAt w a E) (hn : E.length = n) (fr : Int) :
    Calls Try.prog 11 #[.slice a n c, .int .i64 fr] w fun e w' => ∃ a1 c1 n1, e = .returned (.slice a1 n1 c1) ∧ (n1 = 0 ↔ ¬ Rch (Stp E) fr fr) ∧ n1 ≤ 2000000 ∧ Below w.heap.size w w' := by
  have h := rcycle_any (c := c) hE fr
  rw [hn] at h
  refine h.mono ?_
  rintro e w' ⟨v, C, rfl, h1, h2, h3, h4⟩
  obtain ⟨a1, c1, rfl⟩ := owns_len h1
  exact ⟨a1, c1, C.length, rfl, h2.zero, by omega, h4⟩
/-- Who is the greatest on rounds, of the first k edges. -/
def MaxUp (E : List (Int × Int)) (k : Nat) (at' : Int) (found : Bool) : Prop := (found = false ∧ ∀ e ∈ E.take k, ¬ Rch (Stp E) e.1 e.1) ∨ (found = true ∧ Rch (Stp E) at' at' ∧ ∀ e ∈ E.take k, Rch (Stp E) e.1 e.1 → e.1 ≤ at')
theorem MaxUp.no {E : List (Int × Int)} {k : Nat} {m : Int} {f : Bool} (h : MaxUp E k m f) {p q : Int} (ht : E.take (k + 1) = E.take k ++ [(p, q)]) (hn : ¬ Rch (Stp E) p p ∨ (f = true ∧ p ≤ m)) : MaxUp E (k + 1) m f := by
  rcases h with ⟨h1, h2⟩ | ⟨h1, h2, h3⟩
  · refine .inl ⟨h1, fun e he => ?_⟩
    rw [ht] at he
    rcases List.mem_append.1 he with h | h
    · exact h2 e h
    · rw [List.mem_singleton] at h
      subst h
      rcases hn with hn | hn
      · exact hn
      · rw [h1] at hn; cases hn.1
  · refine .inr ⟨h1, h2, fun e he hr => ?_⟩
    rw [ht] at he
    rcases List.mem_append.1 he with h | h
    · exact h3 e h hr
    · rw [List.mem_singleton] at h
      subst h
      rcases hn with hn | hn
      · exact absurd hr hn
      · exact hn.2
theorem MaxUp.yes {E : List (Int × Int)} {k : Nat} {m : Int} {f : Bool} (h : MaxUp E k m f) {p q : Int} (ht : E.take (k + 1) = E.take k ++ [(p, q)]) (hp : Rch (Stp E) p p) (hn : f = false ∨ m < p) : MaxUp E (k + 1) p true := by
  refine .inr ⟨rfl, hp, fun e he hr => ?_⟩
  rw [ht] at he
  rcases List.mem_append.1 he with h' | h'
  · rcases h with ⟨h1, h2⟩ | ⟨h1, h2, h3⟩
    · exact absurd hr (h2 e h')
    · have := h3 e h' hr
      rcases hn with hn | hn
      · rw [h1] at hn; cases hn
      · omega
  · rw [List.mem_singleton] at h'
    subst h'
    exact Int.le_refl _
theorem round_from {E : List (Int × Int)} {x : Int} (h : Rch (Stp E) x x) : ∃ e ∈ E, e.1 = x := by
  obtain ⟨c, hc⟩ := h.first
  exact ⟨(x, c), hc, rfl⟩
theorem filter_lt {α : Type} (p : α → Bool) : ∀ (l : List α) (x : α), x ∈ l → p x = false → (l.filter p).length < l.length
  | y :: l, x, hx, hp => by
    rw [List.filter_cons]
    rcases List.mem_cons.1 hx with e | e
    · subst e
      rw [hp]
      have := List.length_filter_le p l
      simp only [List.length_cons, Bool.false_eq_true, if_false]
      omega
    · have := filter_lt p l x e hp
      split
      · simp only [List.length_cons]; omega
      · simp only [List.length_cons]; omega
set_option maxHeartbeats 4000000 in
set_option maxRecDepth 100000 in
theorem rfree_any {w : World} {a : Option Addr} {c : Nat} {E : List (Int × Int)} (hE : EdgesAt w a E) :
    Calls Try.prog 17 #[.slice a E.length c] w fun e w' => ∃ (a' : Option Addr) (c' : Nat) (F : List (Int × Int)), e = .returned (.slice a' F.length c') ∧ EdgesAt w' a' F ∧ FreeIs E F ∧ Below w.heap.size w w' := by
  have HE := hide hE
  have HLEN := hide hE.len
  clear hE
  go_enter Try.func17, Try.ntmps17
  go_wp2
  go_loopw [0, 3, 4] (fun v _ _ wr => ∃ (a1 : Option Addr) (c1 : Nat) (D : List (Int × Int)), v = .slice a1 D.length c1 ∧ EdgesAt wr a1 D ∧ (∀ F, FreeIs D F → FreeIs E F) ∧ Below w.heap.size w wr) (fun v _ _ _ => lenOf v)
  case atStart => exact ⟨a, c, E, rfl, HE.out, fun F h => h, Below.refl _ _⟩
  case round =>
    clear HE HLEN
    obtain ⟨a1, c1, D, rfl, hD, hF, hB⟩ := hrel
    have HD := hide hD
    have HF := hide hF
    have HB := hide hB
    have hDl := hD.len
    obtain ⟨n, hn⟩ : ∃ n, D.length = n := ⟨_, rfl⟩
    have HN := hide hn
    rw [hn] at hDl ⊢
    clear hD hF hB hn
    obtain ⟨w1, hw1⟩ : ∃ w1, wr = w1 := ⟨_, rfl⟩
    subst hw1
    have HCY : Hid (∀ W fr, Below wr.heap.size wr W → Calls Try.prog 11 #[.slice a1 n c1, .int .i64 fr] W fun e w' => ∃ a1 c1 n1, e = .returned (.slice a1 n1 c1) ∧ (n1 = 0 ↔ ¬ Rch (Stp D) fr fr) ∧ n1 ≤ 2000000 ∧ Below W.heap.size W w') := fun W fr hb => rcyc_len (HD.out.belowW hb) HN.out fr
    generalize hww : wr = w1 at *
    clear hww
    go_wp2
    go_loopw [3, 4, 5] (fun s f i wr => ∃ (k : Nat) (m : Int) (fd : Bool), k ≤ n ∧ i = .int .i64 k ∧ s = .int .i64 m ∧ f = .bool fd ∧ MaxUp D k m fd ∧ Below w1.heap.size w1 wr) (fun _ _ i _ => n - (intOf i).toNat)
    case atStart => exact ⟨0, 0, false, by omega, rfl, rfl, rfl, .inl ⟨rfl, by simp⟩, Below.refl _ _⟩
    case round =>
      obtain ⟨k, m, fd, hk, rfl, rfl, rfl, hM, hB1⟩ := hrel
      have HM := hide hM
      have HB1 := hide hB1
      clear hM hB1
      by_cases hlt : k < n
      · obtain ⟨⟨p, q⟩, hx⟩ : ∃ x, D[k]? = some x := ⟨_, List.getElem?_eq_getElem (by rw [HN.out]; exact hlt)⟩
        obtain ⟨b, o, hab, hbl, hrg⟩ := HD.out.at' k _ hx
        subst hab
        have hc0 : wr.cell? ⟨b, o + k * 2, none⟩ = some (.int .i64 p) := (HB1.out.cell (p := ⟨b, o + k * 2, none⟩) hbl).trans (hrg 0 _ rfl)
        have HC0 : Hid (∀ W, Below wr.heap.size wr W → W.cell? ⟨b, o + k * 2, none⟩ = some (.int .i64 p)) := fun W hb => (hb.cell (p := ⟨b, o + k * 2, none⟩) (Nat.lt_of_lt_of_le hbl HB1.out.size)).trans hc0
        have HTK : Hid (D.take (k + 1) = D.take k ++ [(p, q)]) := take_snoc hx
        have HCW := hide (HCY.out wr p HB1.out)
        have HNO : Hid (¬ Rch (Stp D) p p ∨ (fd = true ∧ p ≤ m) → MaxUp D (k + 1) m fd) := fun h => HM.out.no HTK.out h
        have HYES : Hid (Rch (Stp D) p p → fd = false ∨ m < p → MaxUp D (k + 1) p true) := fun h1 h2 => HM.out.yes HTK.out h1 h2
        clear hrg hx
        by_cases hr : Rch (Stp D) p p
        · have HR := hide hr
          have hpos : Hid (∀ n1 : Nat, (n1 = 0 ↔ ¬ Rch (Stp D) p p) → 0 < n1) := fun n1 h => by
            rcases Nat.eq_zero_or_pos n1 with e | e
            · exact absurd HR.out (h.1 e)
            · exact e
          clear hr
          cases fd with
          | false =>
            have HY := hide (HYES.out HR.out (.inl rfl))
            go_wp2_with (go_at_call 11; refine HCW.out.mono ?_; rintro e w2 ⟨a2, c2, n2, rfl, hz2, hl2, hb2⟩; have hn2 := hpos.out n2 hz2; have hc2 := HC0.out w2 hb2; have HB2 := hide hb2; clear hb2 hz2)
            go_roundw
            case rel => exact ⟨k + 1, p, true, by omega, by go_num, rfl, rfl, HY.out, bt HB1.out (Nat.le_refl _) HB2.out⟩
            case measure => simp [intOf]; omega
          | true =>
            by_cases hmp : m < p
            · have HY := hide (HYES.out HR.out (.inr hmp))
              go_wp2_with (go_at_call 11; refine HCW.out.mono ?_; rintro e w2 ⟨a2, c2, n2, rfl, hz2, hl2, hb2⟩; have hn2 := hpos.out n2 hz2; have hc2 := HC0.out w2 hb2; have HB2 := hide hb2; clear hb2 hz2)
              go_roundw
              case rel => exact ⟨k + 1, p, true, by omega, by go_num, rfl, rfl, HY.out, bt HB1.out (Nat.le_refl _) HB2.out⟩
              case measure => simp [intOf]; omega
            · have HY := hide (HNO.out (.inr ⟨rfl, by omega⟩))
              go_wp2_with (go_at_call 11; refine HCW.out.mono ?_; rintro e w2 ⟨a2, c2, n2, rfl, hz2, hl2, hb2⟩; have hn2 := hpos.out n2 hz2; have hc2 := HC0.out w2 hb2; have HB2 := hide hb2; clear hb2 hz2)
              go_roundw
              case rel => exact ⟨k + 1, m, true, by omega, by go_num, rfl, rfl, HY.out, bt HB1.out (Nat.le_refl _) HB2.out⟩
              case measure => simp [intOf]; omega
        · have HY := hide (HNO.out (.inl hr))
          have HR := hide hr
          have HCW2 : Hid (Calls Try.prog 11 #[.slice (some ⟨b, o, none⟩) n c1, .int .i64 p] wr fun e w' => ∃ a1 c1, e = .returned (.slice a1 0 c1) ∧ Below wr.heap.size wr w') := HCW.out.mono (by
            rintro e w' ⟨a2, c2, n2, rfl, hz2, hl2, hb2⟩
            have : n2 = 0 := hz2.2 HR.out
            subst this
            exact ⟨a2, c2, rfl, hb2⟩)
          clear hr
          go_wp2_with (go_at_call 11; refine HCW2.out.mono ?_; rintro e w2 ⟨a2, c2, rfl, hb2⟩; have HB2 := hide hb2; clear hb2)
          go_roundw
          case rel => exact ⟨k + 1, m, fd, by omega, by go_num, rfl, rfl, HY.out, bt HB1.out (Nat.le_refl _) HB2.out⟩
          case measure => simp [intOf]; omega
      · have HMD : Hid (MaxUp D n m fd) := by
          have : k = n := by omega
          rw [← this]
          exact HM.out
        have HTA : Hid (D.take n = D) := List.take_of_length_le (by rw [HN.out]; omega)
        have HBR : Hid (Below w.heap.size w wr) := bt HB.out (Nat.le_refl _) HB1.out
        have HDR : Hid (EdgesAt wr a1 D) := HD.out.belowW HB1.out
        cases fd with
        | false =>
          have HFI : Hid (FreeIs E D) := HF.out D (FreeIs.done (fun x hx => by
            rcases HMD.out with ⟨_, h⟩ | ⟨h, _⟩
            · obtain ⟨e, he, rfl⟩ := round_from hx
              rw [HTA.out] at h
              exact h e he hx
            · cases h))
          go_wp2
          go_ret
          exact ⟨a1, c1, D, by rw [HN.out]; rfl, HDR.out, HFI.out, HBR.out⟩
        | true =>
          have hmm : Rch (Stp D) m m ∧ ∀ x, Rch (Stp D) x x → x ≤ m := by
            rcases HMD.out with ⟨h, _⟩ | ⟨_, h2, h3⟩
            · cases h
            · refine ⟨h2, fun x hx => ?_⟩
              obtain ⟨e, he, rfl⟩ := round_from hx
              rw [HTA.out] at h3
              exact h3 e he hx
          have HNX : Hid (∀ F, FreeIs (without D m) F → FreeIs E F) := fun F hF => HF.out F (FreeIs.step hmm.1 hmm.2 hF)
          have HLT : Hid ((without D m).length < n) := by
            rw [← HN.out]
            obtain ⟨e, he, e1⟩ := round_from hmm.1
            exact filter_lt _ D e he (by simp [e1])
          have HWO : Hid (Calls Try.prog 16 #[.slice a1 n c1, .int .i64 m] wr fun e w' => ∃ v, e = .returned v ∧ w'.ownsRow wr.heap.size 52 2 v (without D m).length (ecells (without D m)) ∧ Below wr.heap.size wr w') := by
            have h := rwithout_any (c := c1) HDR.out m
            rw [HN.out] at h
            exact h
          clear hmm
          go_wp2_with (go_at_call 16; refine HWO.out.mono ?_; rintro e w3 ⟨v3, rfl, hr3, hb3⟩; obtain ⟨a3, c3, rfl, hE3⟩ := EdgesAt.of_owns hr3 (by have := HLT.out; omega))
          go_roundw
          case rel => exact ⟨a3, c3, without D m, rfl, hE3, HNX.out, bt HBR.out (Nat.le_refl _) hb3⟩
          case measure => exact HLT.out
end Go.Proofs.Ytaoghggbcbpapaa
