/- The document's reach and Put. -/
import Derived.Test.YtaoghggbcbpapaaHas
namespace Go.Proofs.Ytaoghggbcbpapaa
open Go.RowKit
set_option linter.unusedVariables false
set_option linter.unusedSimpArgs false

/-! ### reach -/
def cntT (E : List (Int × Int)) (O : List Int) : Nat := E.countP fun e => O.contains e.2
theorem countP_lt {α : Type} (p q : α → Bool) : ∀ (l : List α) (x : α), x ∈ l → p x = false → q x = true → (∀ y, p y = true → q y = true) → l.countP p < l.countP q
  | y :: l, x, hx, hp, hq, h => by
    rw [List.countP_cons, List.countP_cons]
    have hle : l.countP p ≤ l.countP q := List.countP_mono_left (fun z _ hz => h z hz)
    rcases List.mem_cons.1 hx with e | e
    · subst e
      simp [hp, hq]
      omega
    · have := countP_lt p q l x e hp hq h
      cases hpy : p y with
      | true => simp [h y hpy]; omega
      | false => cases q y <;> simp <;> omega
theorem cntT_add {E : List (Int × Int)} {O : List Int} {p q : Int} (he : (p, q) ∈ E) (hq : O.contains q = false) : cntT E O < cntT E (O ++ [q]) := by
  refine countP_lt _ _ E (p, q) he hq (by simp) (fun y hy => ?_)
  rw [List.contains_iff_mem] at hy ⊢
  exact List.mem_append.2 (.inl hy)
theorem cntT_le (E : List (Int × Int)) (O : List Int) : cntT E O ≤ E.length := List.countP_le_length
/-- What was found so far. -/
structure Far (E : List (Int × Int)) (fr : Int) (O : List Int) : Prop where
  rch : ∀ x ∈ O, Rch (Stp E) fr x
  len : O.length ≤ cntT E O
def Shut (E : List (Int × Int)) (fr : Int) (O : List Int) : Prop := ∀ e ∈ E, (e.1 = fr ∨ e.1 ∈ O) → e.2 ∈ O
theorem Far.start (E : List (Int × Int)) (fr : Int) : Far E fr [] := ⟨fun x h => by simp at h, by simp⟩
theorem Far.le {E : List (Int × Int)} {fr : Int} {O : List Int} (h : Far E fr O) : O.length ≤ E.length := Nat.le_trans h.len (cntT_le E O)
theorem Far.add {E : List (Int × Int)} {fr : Int} {O : List Int} (h : Far E fr O) {p q : Int} (he : (p, q) ∈ E) (hp : p = fr ∨ p ∈ O) (hq : O.contains q = false) : Far E fr (O ++ [q]) := by
  refine ⟨fun x hx => ?_, ?_⟩
  · rcases List.mem_append.1 hx with k | k
    · exact h.rch x k
    · rw [List.mem_singleton] at k
      subst k
      rcases hp with e | e
      · subst e; exact Rch.one he
      · exact (h.rch p e).tail he
  · have := cntT_add he hq
    have := h.len
    rw [List.length_append, List.length_singleton]
    omega
theorem Far.done {E : List (Int × Int)} {fr : Int} {O : List Int} (h : Far E fr O) (hs : Shut E fr O) (x : Int) : x ∈ O ↔ Rch (Stp E) fr x := by
  constructor
  · exact h.rch x
  · intro r
    exact r.closed (P := fun x => x ∈ O) (fun y hy => hs _ hy (.inl rfl)) (fun y z hy hz => hs _ hz (.inr hy))
def lenOf : Value → Nat
  | .slice _ n _ => n
  | _ => 0
def boolN : Value → Nat
  | .bool true => 1
  | _ => 0
theorem own_none3 (w : World) (base : Nat) (hb : base ≤ w.heap.size) : (w.alloc (.cells #[] 3)).ownsRow base 3 1 (.slice (some ⟨w.heap.size, 0, none⟩) 0 0) ([] : List Int).length (([] : List Int).map icell) :=
  ⟨rfl, .inr ⟨w.heap.size, 0, #[], rfl, hb, heap_alloc_new _ _, Nat.le_refl _, by simp [maxLen], rfl, rfl⟩⟩
theorem run_bs0_29 (w : World) : (Instr.buildSlice 29 0 #[]).run Try.prog w = .ok (.slice (some ⟨w.heap.size, 0, none⟩) 0 0) (w.alloc (.cells #[] 3)) := by kernel_rfl
set_option maxHeartbeats 4000000 in
set_option maxRecDepth 100000 in
theorem reach_any {w : World} {a : Option Addr} {c : Nat} {E : List (Int × Int)} (hE : EdgesAt w a E) (fr : Int) :
    Calls Try.prog 24 #[.slice a E.length c, .int .i64 fr] w fun e w' => ∃ (v : Value) (O : List Int), e = .returned v ∧ w'.ownsRow w.heap.size 3 1 v O.length (O.map icell) ∧ (∀ x, x ∈ O ↔ Rch (Stp E) fr x) ∧ O.length ≤ E.length ∧ Below w.heap.size w w' := by
  have HE := hide hE
  have hlen := hE.len
  obtain ⟨n, hn⟩ : ∃ n, E.length = n := ⟨_, rfl⟩
  have HN := hide hn
  rw [hn] at hlen ⊢
  clear hn hE
  have hb0 := run_bs0_29
  have HO0 := hide (own_none3 w w.heap.size (Nat.le_refl _))
  have HB0 : Hid (Below w.heap.size w (w.alloc (.cells #[] 3))) := (Below.refl _ w).alloc (Nat.le_refl _) _
  go_enter Try.func24, Try.ntmps24
  go_wp2
  go_loopw [5, 6] (fun v g wr => ∃ (O : List Int) (ag : Bool) (a5 : Option Addr) (c5 : Nat), v = .slice a5 O.length c5 ∧ g = .bool ag ∧ Far E fr O ∧ (ag = false → Shut E fr O) ∧ wr.ownsRow w.heap.size 3 1 v O.length (O.map icell) ∧ Below w.heap.size w wr) (fun v g _ => 2 * (n - lenOf v) + boolN g)
  case atStart => exact ⟨[], true, _, _, rfl, rfl, Far.start E fr, (fun h => by cases h), HO0.out, HB0.out⟩
  case round =>
    obtain ⟨O, ag, a5, c5, rfl, rfl, hF, hS, hrow, hB⟩ := hrel
    have hOl : O.length ≤ n := by rw [← HN.out]; exact hF.le
    cases ag with
    | false =>
      have HD := hide (hF.done (hS rfl))
      have HROW := hide hrow
      have HB := hide hB
      have HOL := hide hOl
      clear hF hS hrow hB
      go_wp2
      go_ret
      exact ⟨_, O, rfl, HROW.out, HD.out, HOL.out, HB.out⟩
    | true =>
      have HF := hide hF
      have HROW := hide hrow
      have HB := hide hB
      clear hF hS hrow hB
      obtain ⟨L0, hL0⟩ : ∃ L0, O.length = L0 := ⟨_, rfl⟩
      have HL0 := hide hL0
      rw [hL0] at HROW hOl ⊢
      clear hL0
      go_wp2
      go_loopw [5, 6, 7] (fun v g i wr => ∃ (k : Nat) (P : List Int) (ag : Bool) (a5 : Option Addr) (c5 : Nat), k ≤ n ∧ i = .int .i64 k ∧ v = .slice a5 P.length c5 ∧ g = .bool ag ∧ Far E fr P ∧ (ag = false → P = O ∧ ∀ e ∈ E.take k, (e.1 = fr ∨ e.1 ∈ P) → e.2 ∈ P) ∧ (ag = true → L0 < P.length) ∧ wr.ownsRow w.heap.size 3 1 v P.length (P.map icell) ∧ Below w.heap.size w wr) (fun _ _ i _ => n - (intOf i).toNat)
      case atStart => exact ⟨0, O, false, _, _, by omega, rfl, by rw [HL0.out], rfl, HF.out, (fun _ => ⟨rfl, by simp⟩), (fun h => by cases h), by rw [HL0.out]; exact HROW.out, HB.out⟩
      case round =>
        clear HF HROW HB
        obtain ⟨k, P, ag, a5, c5, hk, rfl, rfl, rfl, hF, hS, hT, hrow, hB⟩ := hrel
        have hPl : P.length ≤ n := by rw [← HN.out]; exact hF.le
        have HF := hide hF
        have HS := hide hS
        have HT := hide hT
        have HROW := hide hrow
        have HB := hide hB
        clear hF hS hT hrow hB
        by_cases hlt : k < n
        · obtain ⟨⟨p, q⟩, hx⟩ : ∃ x, E[k]? = some x := ⟨_, List.getElem?_eq_getElem (by rw [HN.out]; exact hlt)⟩
          obtain ⟨b, o, hab, hbl, hrg⟩ := HE.out.at' k _ hx
          subst hab
          have hc0 : wr.cell? ⟨b, o + k * 2, none⟩ = some (.int .i64 p) := (HB.out.cell (p := ⟨b, o + k * 2, none⟩) hbl).trans (hrg 0 _ rfl)
          have hc1 : wr.cell? ⟨b, o + k * 2 + 1, none⟩ = some (.int .i64 q) := (HB.out.cell (p := ⟨b, o + k * 2 + 1, none⟩) hbl).trans (hrg 1 _ rfl)
          have HTK : Hid (E.take (k + 1) = E.take k ++ [(p, q)]) := take_snoc hx
          have HME : Hid ((p, q) ∈ E) := List.mem_of_getElem? hx
          obtain ⟨pl, hpl⟩ : ∃ pl, P.length = pl := ⟨_, rfl⟩
          have HPL := hide hpl
          have HH : Hid (∀ y, Calls Try.prog 25 #[.slice a5 pl c5, .int .i64 y] wr fun e w' => e = .returned (.bool (P.contains y)) ∧ w' = wr) := fun y => by
            have h := has_any (Row.of_owns HROW.out) (by omega) y
            rw [HPL.out] at h
            exact h
          rw [hpl] at hPl ⊢
          clear hrg hx hpl
          have HSK : Hid ((p = fr ∨ p ∈ P → q ∈ P) → ag = false → P = O ∧ ∀ e ∈ E.take (k + 1), (e.1 = fr ∨ e.1 ∈ P) → e.2 ∈ P) := fun hor hag => by
            obtain ⟨h1, h2⟩ := HS.out hag
            refine ⟨h1, fun e he => ?_⟩
            rw [HTK.out] at he
            rcases List.mem_append.1 he with h | h
            · exact h2 e h
            · rw [List.mem_singleton] at h; subst h; exact hor
          obtain ⟨c1, hc1'⟩ : ∃ b, (p == fr) = b := ⟨_, rfl⟩
          obtain ⟨c2, hc2'⟩ : ∃ b, P.contains p = b := ⟨_, rfl⟩
          obtain ⟨c3, hc3'⟩ : ∃ b, P.contains q = b := ⟨_, rfl⟩
          have HP2 := hide hc2'
          have HP3 := hide hc3'
          have HOR : Hid (p = fr ∨ p ∈ P ↔ c1 = true ∨ c2 = true) := by
            show _ ↔ _
            rw [← hc1', ← hc2', List.contains_iff_mem]
            simp
          have HQ : Hid (q ∈ P ↔ c3 = true) := by rw [← hc3', List.contains_iff_mem]; exact Iff.rfl
          clear hc2' hc3'
          have skip : Hid (¬ (c1 = true ∨ c2 = true) ∨ c3 = true → p = fr ∨ p ∈ P → q ∈ P) := fun h hp => by
            rcases h with h | h
            · exact absurd (HOR.out.1 hp) h
            · exact HQ.out.2 h
          cases c3 with
          | true =>
            have HSK2 := hide (HSK.out (skip.out (.inr rfl)))
            cases c1 with
            | true =>
              go_wp2_with (go_at_call 25; refine (HH.out _).mono ?_; rintro e w' ⟨rfl, hw⟩; have hw := hw.symm; subst hw; (first | rw [HP3.out] | rw [HP2.out]))
              go_roundw
              case rel => exact ⟨k + 1, P, ag, _, _, by omega, by go_num, by rw [HPL.out], rfl, HF.out, HSK2.out, HT.out, by rw [← HPL.out]; exact HROW.out, HB.out⟩
              case measure => simp [intOf]; omega
            | false =>
              cases c2 with
              | true =>
                go_wp2_with (go_at_call 25; refine (HH.out _).mono ?_; rintro e w' ⟨rfl, hw⟩; have hw := hw.symm; subst hw; (first | rw [HP3.out] | rw [HP2.out]))
                go_roundw
                case rel => exact ⟨k + 1, P, ag, _, _, by omega, by go_num, by rw [HPL.out], rfl, HF.out, HSK2.out, HT.out, by rw [← HPL.out]; exact HROW.out, HB.out⟩
                case measure => simp [intOf]; omega
              | false =>
                go_wp2_with (go_at_call 25; refine (HH.out _).mono ?_; rintro e w' ⟨rfl, hw⟩; have hw := hw.symm; subst hw; (first | rw [HP3.out] | rw [HP2.out]))
                go_roundw
                case rel => exact ⟨k + 1, P, ag, _, _, by omega, by go_num, by rw [HPL.out], rfl, HF.out, HSK2.out, HT.out, by rw [← HPL.out]; exact HROW.out, HB.out⟩
                case measure => simp [intOf]; omega
          | false =>
            have HR2 := hide (row_new wr 3 [.int .i64 q] 1 (by omega))
            have HB2 : Hid (Below w.heap.size w (wr.alloc (.cells #[.int .i64 q] 3))) := HB.out.trans ((Below.refl _ wr).alloc HB.out.size _)
            have HO2 : Hid ((wr.alloc (.cells #[.int .i64 q] 3)).ownsRow w.heap.size 3 1 (.slice a5 pl c5) pl (P.map icell)) := by
              have h := owns_below HROW.out ((Below.refl _ wr).alloc (Nat.le_refl _) (.cells #[.int .i64 q] 3)) (Nat.le_refl _)
              rw [HPL.out] at h
              exact h
            have HFA : Hid (c1 = true ∨ c2 = true → Far E fr (P ++ [q])) := fun h => HF.out.add HME.out (HOR.out.2 h) HP3.out
            have HLT : Hid (L0 < (P ++ [q]).length) := by
              rw [List.length_append, List.length_singleton]
              cases ag with
              | true => have := HT.out rfl; show L0 < P.length + 1; omega
              | false =>
                have h := (HS.out rfl).1
                show L0 < P.length + 1
                rw [h, HL0.out]
                omega
            have HEQ : Hid ((P ++ [q]).map icell = P.map icell ++ [.int .i64 q]) := by simp [Hid, icell]
            cases c1 with
            | true =>
              have HFB := hide (HFA.out (.inl rfl))
              go_wp2_with (first
                | (go_at_call 25; refine (HH.out _).mono ?_; rintro e w' ⟨rfl, hw⟩; have hw := hw.symm; subst hw; (first | rw [HP3.out] | rw [HP2.out]))
                | (refine wpList_append_row rfl (.tmp 42) (.tmp 48) 29 rfl w.heap.size 3 (.int .i64 0) 1 8 Try.underlying29 Try.info3 rfl (by omega) _ _ _ _ 1 _ rfl rfl HO2.out HR2.out rfl (by simp [Value.oneCell']) (by omega) (by omega) HB2.out.size ?_; intro v7 w7 ho7 hg7; obtain ⟨a7, c7, rfl⟩ := owns_len ho7))
              go_roundw
              case rel =>
                refine ⟨k + 1, P ++ [q], true, a7, c7, by omega, by go_num, by rw [List.length_append, HPL.out]; rfl, rfl, HFB.out, (fun h => by cases h), (fun _ => HLT.out), ?_, HB2.out.grown hg7 HB2.out.size (fun k hk => (HO2.out.lt k hk).1)⟩
                rw [HEQ.out, List.length_append, HPL.out]
                exact ho7
              case measure => simp [intOf]; omega
            | false =>
              cases c2 with
              | true =>
                have HFB := hide (HFA.out (.inr rfl))
                go_wp2_with (first
                  | (go_at_call 25; refine (HH.out _).mono ?_; rintro e w' ⟨rfl, hw⟩; have hw := hw.symm; subst hw; (first | rw [HP3.out] | rw [HP2.out]))
                  | (refine wpList_append_row rfl (.tmp 42) (.tmp 48) 29 rfl w.heap.size 3 (.int .i64 0) 1 8 Try.underlying29 Try.info3 rfl (by omega) _ _ _ _ 1 _ rfl rfl HO2.out HR2.out rfl (by simp [Value.oneCell']) (by omega) (by omega) HB2.out.size ?_; intro v7 w7 ho7 hg7; obtain ⟨a7, c7, rfl⟩ := owns_len ho7))
                go_roundw
                case rel =>
                  refine ⟨k + 1, P ++ [q], true, a7, c7, by omega, by go_num, by rw [List.length_append, HPL.out]; rfl, rfl, HFB.out, (fun h => by cases h), (fun _ => HLT.out), ?_, HB2.out.grown hg7 HB2.out.size (fun k hk => (HO2.out.lt k hk).1)⟩
                  rw [HEQ.out, List.length_append, HPL.out]
                  exact ho7
                case measure => simp [intOf]; omega
              | false =>
                have HSK2 := hide (HSK.out (skip.out (.inl (by simp))))
                go_wp2_with (go_at_call 25; refine (HH.out _).mono ?_; rintro e w' ⟨rfl, hw⟩; have hw := hw.symm; subst hw; (first | rw [HP3.out] | rw [HP2.out]))
                go_roundw
                case rel => exact ⟨k + 1, P, ag, _, _, by omega, by go_num, by rw [HPL.out], rfl, HF.out, HSK2.out, HT.out, by rw [← HPL.out]; exact HROW.out, HB.out⟩
                case measure => simp [intOf]; omega
        · have HSH : Hid (ag = false → Shut E fr P) := fun h => by
            have h2 := (HS.out h).2
            rw [List.take_of_length_le (by rw [HN.out]; omega)] at h2
            exact h2
          have HME : Hid (2 * (n - P.length) + boolN (.bool ag) < 2 * (n - L0) + 1) := by
            show 2 * (n - P.length) + boolN (.bool ag) < 2 * (n - L0) + 1
            cases ag with
            | true => have := HT.out rfl; show 2 * (n - P.length) + 1 < 2 * (n - L0) + 1; omega
            | false =>
              have h := (HS.out rfl).1
              show 2 * (n - P.length) + 0 < 2 * (n - L0) + 1
              rw [h, HL0.out]
              omega
          go_wp2
          go_roundw
          case rel => exact ⟨P, ag, _, _, rfl, rfl, HF.out, HSH.out, HROW.out, HB.out⟩
          case measure => exact HME.out
end Go.Proofs.Ytaoghggbcbpapaa
