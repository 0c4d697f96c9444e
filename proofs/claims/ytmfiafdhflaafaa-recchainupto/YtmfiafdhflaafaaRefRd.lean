/- The document's answer: its reader, which goes on behind the first wrong number. -/
import Derived.Test.YtmfiafdhflaafaaSame
namespace Go.Proofs.Ytmfiafdhflaafaa
open Go.RowKit
set_option linter.unusedVariables false
set_option linter.unusedSimpArgs false

/-- The reader in block r: what is left of the bytes, or none behind a wrong number. -/
def RdS (w0 w : World) (r : Nat) : Option (List UInt8) → Prop
  | some rest => ∃ v, w.heap[r]? = some (.cells #[v, .bool false] 61 (0, 0)) ∧ Sl w0 v rest
  | none => ∃ v, w.heap[r]? = some (.cells #[v, .bool true] 61 (0, 0))
theorem RdS.lt {w0 w : World} {r : Nat} {st : Option (List UInt8)} (h : RdS w0 w r st) : ∃ C, w.heap[r]? = some (.cells C 61 (0, 0)) := by
  cases st with
  | none => obtain ⟨v, hv⟩ := h; exact ⟨_, hv⟩
  | some l => obtain ⟨v, hv, _⟩ := h; exact ⟨_, hv⟩
theorem RdS.stay {w0 w w' : World} {r : Nat} {st : Option (List UInt8)} (h : RdS w0 w r st) (hb : w'.heap[r]? = w.heap[r]?) : RdS w0 w' r st := by
  cases st with
  | none => obtain ⟨v, hv⟩ := h; exact ⟨v, hb.trans hv⟩
  | some l => obtain ⟨v, hv, hs⟩ := h; exact ⟨v, hb.trans hv, hs⟩

set_option maxHeartbeats 400000 in
theorem take_ok {w0 w : World} {r k : Nat} {rest : List UInt8} (h : RdS w0 w r (some rest)) (hk : k ≤ rest.length) :
    Calls Try.prog 26 #[.pointer (some ⟨r, 0, none⟩), .int .i64 (k : Int)] w fun e w' => ∃ vp, e = .returned vp ∧ Sl w0 vp (rest.take k) ∧ RdS w0 w' r (some (rest.drop k)) ∧ Off [r] w w' := by
  obtain ⟨v, hv, hs⟩ := h
  obtain ⟨ao, c, rfl, hc1, hc2⟩ := hs.len
  have k0 : w.cell? ⟨r, 0, none⟩ = some (.slice ao rest.length c) := by rw [cell_row hv]; rfl
  have k1 : w.cell? ⟨r, 1, none⟩ = some (.bool false) := by rw [cell_row hv]; rfl
  have f0 : w.frozen? ⟨r, 0, none⟩ = false := frozen_row hv
  have HT := hide (hs.to k hk)
  have HF := hide (hs.from k hk)
  have HV := hide hv
  have hcut1 := fun u => run_cut_to u ao rest.length c k (by omega)
  have hcut2 := fun u => run_cut_from u ao rest.length c k hk
  have hcmp : (k : Int) ≤ (rest.length : Int) := by omega
  simp only [maxLen] at hc2
  clear hv hs
  generalize rest.length = L at *
  go_enter Try.func26, Try.ntmps26
  go_wp2
  go_ret
  exact ⟨_, rfl, HT.out, ⟨_, heap_set_same _ HV.out, HF.out⟩, (Off.refl _ _).setCell _ _ (.inl (by simp))⟩
set_option maxHeartbeats 400000 in
theorem take_no {w0 w : World} {r k : Nat} {rest : List UInt8} (h : RdS w0 w r (some rest)) (hk : rest.length < k) (hk2 : (k : Int) ≤ 9223372036854775807) :
    Calls Try.prog 26 #[.pointer (some ⟨r, 0, none⟩), .int .i64 (k : Int)] w fun e w' => e = .returned (.slice none 0 0) ∧ RdS w0 w' r none ∧ Off [r] w w' := by
  obtain ⟨v, hv, hs⟩ := h
  obtain ⟨ao, c, rfl, hc1, hc2⟩ := hs.len
  have k0 : w.cell? ⟨r, 0, none⟩ = some (.slice ao rest.length c) := by rw [cell_row hv]; rfl
  have k1 : w.cell? ⟨r, 1, none⟩ = some (.bool false) := by rw [cell_row hv]; rfl
  have f1 : w.frozen? ⟨r, 1, none⟩ = false := frozen_row hv
  have HV := hide hv
  have hcmp : (rest.length : Int) < (k : Int) := by omega
  simp only [maxLen] at hc2
  clear hv hs
  generalize rest.length = L at *
  go_enter Try.func26, Try.ntmps26
  go_wp2
  go_ret
  exact ⟨rfl, ⟨_, heap_set_same _ HV.out⟩, (Off.refl _ _).setCell _ _ (.inl (by simp))⟩
set_option maxHeartbeats 400000 in
theorem take_bad {w0 w : World} {r : Nat} {k : Int} (h : RdS w0 w r none) :
    Calls Try.prog 26 #[.pointer (some ⟨r, 0, none⟩), .int .i64 k] w fun e w' => e = .returned (.slice none 0 0) ∧ RdS w0 w' r none ∧ Off [r] w w' := by
  obtain ⟨v, hv⟩ := h
  have k1 : w.cell? ⟨r, 1, none⟩ = some (.bool true) := by rw [cell_row hv]; rfl
  have f1 : w.frozen? ⟨r, 1, none⟩ = false := frozen_row hv
  have HV := hide hv
  clear hv
  go_enter Try.func26, Try.ntmps26
  go_wp2
  go_ret
  exact ⟨rfl, ⟨_, heap_set_same _ HV.out⟩, (Off.refl _ _).setCell _ _ (.inl (by simp))⟩

/-! ### A number -/
def nx : Option (List UInt8) → Int × Option (List UInt8)
  | none => (0, none)
  | some rest => match getNum rest with
    | none => (0, none)
    | some (n, r') => (n, some r')
theorem nx_le (st : Option (List UInt8)) : 0 ≤ (nx st).1 ∧ (nx st).1 ≤ 4611686018427387904 := by
  cases st with
  | none => simp [nx]
  | some rest =>
    simp only [nx]
    split
    · simp
    · rename_i h
      have := getNum_len h
      exact ⟨this.2.1, this.2.2.1⟩
theorem mul_add_u64 (v c : Nat) (hv : v < 72057594037927936) (hc : c < 256) : IntKind.u64.wrap (IntKind.u64.wrap (256 * (v : Int)) + IntKind.u64.wrap (c : Int)) = ((v * 256 + c : Nat) : Int) := by
  rw [wrapU, wrapU, wrapU]
  omega
theorem Sl.of_below {w0 w : World} {v : Value} {bs : List UInt8} (h : Sl w0 v bs) (hB : Below w0.heap.size w0 w) : Sl w v bs := Row.below h hB (Nat.le_refl _)

set_option maxHeartbeats 1000000 in
theorem refNum_any {w0 w : World} {r : Nat} {st : Option (List UInt8)} (hB : Below w0.heap.size w0 w) (hr : w0.heap.size ≤ r) (h : RdS w0 w r st) :
    Calls Try.prog 25 #[.pointer (some ⟨r, 0, none⟩)] w fun e w' => e = .returned (.int .i64 (nx st).1) ∧ RdS w0 w' r (nx st).2 ∧ Off [r] w w' := by
  cases st with
  | none =>
    have HC := hide (take_bad (k := 8) h)
    clear h
    go_enter Try.func25, Try.ntmps25
    go_wp2_with fail
    refine HC.out.mono ?_
    rintro e w1 ⟨rfl, h1, hO⟩
    have HP : Hid (RdS w0 w1 r none ∧ Off [r] w w1) := ⟨h1, hO⟩
    clear h1 hO HC
    go_wp2
    go_loop [4, 5] (fun v i => v = .int .u64 0 ∧ i = .int .i64 0) (fun _ _ => 0)
    case atStart => exact ⟨rfl, rfl⟩
    case round =>
      obtain ⟨rfl, rfl⟩ := hrel
      go_wp2
      go_ret
      exact ⟨rfl, HP.out⟩
  | some rest =>
    by_cases h8 : rest.length < 8
    · have e : nx (some rest) = (0, none) := by simp [nx, getNum, h8]
      rw [e]
      have HC := hide (take_no (k := 8) h h8 (by omega))
      clear h e
      go_enter Try.func25, Try.ntmps25
      go_wp2_with fail
      refine HC.out.mono ?_
      rintro e w1 ⟨rfl, h1, hO⟩
      have HP : Hid (RdS w0 w1 r none ∧ Off [r] w w1) := ⟨h1, hO⟩
      clear h1 hO HC
      go_wp2
      go_loop [4, 5] (fun v i => v = .int .u64 0 ∧ i = .int .i64 0) (fun _ _ => 0)
      case atStart => exact ⟨rfl, rfl⟩
      case round =>
        obtain ⟨rfl, rfl⟩ := hrel
        go_wp2
        go_ret
        exact ⟨rfl, HP.out⟩
    · have HC := hide (take_ok (k := 8) h (by omega))
      have HT : Hid (∀ k, k < 8 → beval ((rest.take 8).take (k + 1)) = beval ((rest.take 8).take k) * 256 + ((rest.take 8)[k]?.getD 0).toNat) := fun k hk => by
        have hl : k < (rest.take 8).length := by rw [List.length_take]; omega
        rw [List.take_succ_eq_append_getElem hl, beval_snoc, List.getElem?_eq_getElem hl]
        rfl
      have HL : Hid ((rest.take 8).length = 8) := by show _ = _; rw [List.length_take]; omega
      have HNX : Hid (nx (some rest) = if 4611686018427387904 < beval (rest.take 8) then (0, none) else (((beval (rest.take 8) : Nat) : Int), some (rest.drop 8))) := by
        show _ = _
        simp only [nx, getNum, h8, if_false]
        split <;> simp_all
      have HB := hide hB
      clear h h8 hB
      generalize rest.take 8 = T at *
      generalize rest.drop 8 = Dr at *
      generalize nx (some rest) = N at *
      go_enter Try.func25, Try.ntmps25
      go_wp2_with fail
      refine HC.out.mono ?_
      rintro e w1 ⟨vp, rfl, hs, h1, hO⟩
      have hB1 : Below w0.heap.size w0 w1 := HB.out.trans (hO.below HB.out.size (fun k hk => by simp at hk; omega))
      have hs1 := hs.of_below hB1
      obtain ⟨ao, c, hvp, q1, q2⟩ := hs1.len
      rw [HL.out] at hvp q1
      have hg := fun k (hk : k < 8) => (by subst hvp; exact hs1.get k (by rw [HL.out]; exact hk) : ∃ g o, ao = some ⟨g, o, none⟩ ∧ w1.cell? ⟨g, o + k, none⟩ = some (.int .u8 ((T.getD k 0).toNat : Int)))
      obtain ⟨g, o, eo, _⟩ := hg 0 (by omega)
      subst eo
      have HG : Hid (∀ k, k < 8 → w1.cell? ⟨g, o + k, none⟩ = some (.int .u8 ((T.getD k 0).toNat : Int))) := fun k hk => by
        obtain ⟨g', o', e, hc⟩ := hg k hk
        injection e with e
        injection e with e1 e2
        subst e1 e2
        exact hc
      have HR1 := hide h1
      have HO := hide hO
      obtain ⟨v1, hv1, _⟩ := h1
      have c1 : w1.cell? ⟨r, 1, none⟩ = some (.bool false) := by rw [cell_row hv1]; rfl
      have f1 : w1.frozen? ⟨r, 1, none⟩ = false := frozen_row hv1
      have HV1 := hide hv1
      subst hvp
      clear hs hs1 hg hO HC hv1 hB1
      go_wp2
      go_loop [4, 5] (fun v i => ∃ k : Nat, k ≤ 8 ∧ i = .int .i64 k ∧ v = .int .u64 (beval (T.take k) : Nat)) (fun _ i => 8 - (intOf i).toNat)
      case atStart => exact ⟨0, by omega, rfl, rfl⟩
      case round =>
        obtain ⟨k, hk, rfl, rfl⟩ := hrel
        by_cases hlt : k < 8
        · have hcell := HG.out k hlt
          go_wp2
          go_round
          case rel =>
            refine ⟨k + 1, by omega, by go_num, ?_⟩
            have := mul_add_u64 _ _ (beval_take_lt T k (by omega)) (UInt8.toNat_lt (T[k]?.getD 0))
            rw [← HT.out k hlt] at this
            rw [this]
          case measure => simp [intOf]; omega
        · have hk8 : k = 8 := by omega
          subst hk8
          have hT8 : T.take 8 = T := List.take_of_length_le (by rw [HL.out]; exact Nat.le_refl _)
          rw [hT8]
          clear hT8
          by_cases hm : 4611686018427387904 < beval T
          · have hN : N = (0, none) := by rw [HNX.out, if_pos hm]
            have hm' : 4611686018427387904 < ((beval T : Nat) : Int) := by omega
            clear hm
            subst hN
            go_wp2
            go_ret
            exact ⟨rfl, ⟨_, heap_set_same _ HV1.out⟩, HO.out.setCell _ _ (.inl (by simp))⟩
          · have hN : N = (((beval T : Nat) : Int), some Dr) := by rw [HNX.out, if_neg hm]
            have hm' : ((beval T : Nat) : Int) ≤ 4611686018427387904 := by omega
            clear hm
            subst hN
            go_wp2
            go_ret
            exact ⟨rfl, HR1.out, HO.out⟩

/-! ### Bytes -/
def pc : Option (List UInt8) → List UInt8 × Option (List UInt8)
  | none => ([], none)
  | some rest => match getPiece rest with
    | none => ([], none)
    | some (p, r') => (p, some r')
theorem append_nil_nil (w : World) (ty : TypeId) : (Builtin.append_ #[23, 23] ty #[.slice none 0 0, .slice none 0 0]).run Try.prog w = .ok (.slice none 0 0) w := by
  obtain ⟨i, hi, _⟩ := Try.info5'
  exact run_append_nothing w 23 ty 5 i Try.underlying23 hi _ (Src.ofNil w Try.underlying23 0)
def BytesEnd (w0 w : World) (r : Nat) (X : List UInt8 × Option (List UInt8)) (e : Ending) (w' : World) : Prop :=
  ∃ v, e = .returned v ∧ w'.ownsRow w.heap.size 5 1 v X.1.length (secCells X.1) ∧ RdS w0 w' r X.2 ∧ Off [r] w w'

set_option maxHeartbeats 1000000 in
theorem refBytes_any {w0 w : World} {r : Nat} {st : Option (List UInt8)} (hB : Below w0.heap.size w0 w) (hr : w0.heap.size ≤ r) (h : RdS w0 w r st) (hlen : ∀ l, st = some l → l.length ≤ 1000000000000) :
    Calls Try.prog 27 #[.pointer (some ⟨r, 0, none⟩)] w fun e w' => BytesEnd w0 w r (pc st) e w' := by
  have HC := hide (refNum_any hB hr h)
  have hap := append_nil_nil
  -- a run that ends with nothing
  by_cases hgood : ∃ rest p r', st = some rest ∧ getPiece rest = some (p, r')
  · obtain ⟨rest, p, r', rfl, hp⟩ := hgood
    have hpc : pc (some rest) = (p, some r') := by simp [pc, hp]
    rw [hpc]
    have hl := hlen rest rfl
    have hpl := getPiece_len hp
    unfold getPiece at hp
    split at hp
    · cases hp
    rename_i n r1 h1
    have hn := getNum_len h1
    split at hp
    · cases hp
    rename_i hlt
    simp only [Option.some.injEq, Prod.mk.injEq] at hp
    obtain ⟨rfl, rfl⟩ := hp
    obtain ⟨m, rfl⟩ : ∃ m : Nat, n = (m : Int) := ⟨n.toNat, by omega⟩
    rw [Int.toNat_natCast] at hpl ⊢
    have hnx : nx (some rest) = ((m : Int), some r1) := by simp [nx, h1]
    rw [hnx] at HC
    have hml : m ≤ r1.length := by omega
    have HB := hide hB
    have HPL : Hid ((r1.take m).length ≤ 1000000000000) := by show _ ≤ _; omega
    clear hB h hlen hpc hl hpl h1 hn hlt hnx
    go_enter Try.func27, Try.ntmps27
    go_wp2_with fail
    refine HC.out.mono ?_
    rintro e w1 ⟨rfl, h1, hO1⟩
    have HC2 := hide (take_ok h1 hml)
    have HO1 := hide hO1
    clear h1 hO1 HC
    go_wp2_with fail
    refine HC2.out.mono ?_
    rintro e w2 ⟨vp, rfl, hs, h2, hO2⟩
    have hO : Off [r] w w2 := HO1.out.trans hO2 (by simp)
    have hB2 : Below w0.heap.size w0 w2 := HB.out.trans (hO.below HB.out.size (fun k hk => by simp at hk; omega))
    have HROW : Hid (Row w2 vp (r1.take m).length (secCells (r1.take m))) := hs.of_below hB2
    have H2 := hide h2
    have HO := hide hO
    have HN1 : Hid (0 + (r1.take m).length ≤ 140737488355328) := by have := HPL.out; show _ ≤ _; omega
    have HN2 : Hid ((0 + (r1.take m).length) * 1 ≤ 140737488355328) := by have := HPL.out; show _ ≤ _; omega
    have HL : Hid ((secCells (r1.take m)).length = (r1.take m).length * 1) := by show _ = _; rw [length_secCells]; omega
    have HNIL : Hid (w2.ownsRow w.heap.size 5 1 (.slice none 0 0) 0 []) := World.ownsRow_nil _ _ _ _
    have HWS : Hid (w.heap.size ≤ w2.heap.size) := hO.size
    obtain ⟨aq, cq, hvq, _, _⟩ := hs.len
    clear hs h2 hO2 hO hB2 HC2 hap
    generalize hPE : r1.take m = P at *
    have HPE := hide hPE
    clear hPE
    subst hvq
    go_wp2_with (first
      | (refine wpList_append_row rfl (.tmp 4) (.tmp 8) 23 rfl w.heap.size 5 _ 1 1 Try.underlying23 Try.info5 rfl (by omega) (.slice none 0 0) _ _ _ _ _ rfl rfl HNIL.out HROW.out HL.out (one_secCells _) HN2.out HN1.out HWS.out ?_
         intro v3 w3 ho3 hg3
         obtain ⟨a3, c3, hv3⟩ := owns_len ho3
         rw [Nat.zero_add] at hv3
         have HO3 := hide ho3
         have HG3 := hide hg3
         clear ho3 hg3
         subst hv3)
      | fail)
    go_ret
    have ho := HO3.out
    have hg := HG3.out
    rw [Nat.zero_add, List.nil_append] at ho
    refine ⟨_, rfl, by rw [HPE.out]; exact ho, ?_, ?_⟩
    · obtain ⟨Cr, hCr⟩ := H2.out.lt
      exact H2.out.stay (hg.block r (lt_of_heap hCr) (by simp [Value.ownBlock]))
    · exact HO.out.grown hg (fun k hk => by simp [Value.ownBlock] at hk)
  · have hpc : pc st = ([], none) := by
      cases st with
      | none => rfl
      | some rest =>
        cases hp : getPiece rest with
        | none => simp [pc, hp]
        | some x => obtain ⟨p, r'⟩ := x; exact absurd ⟨rest, p, r', rfl, hp⟩ hgood
    rw [hpc]
    have hbad : ∀ w1, RdS w0 w1 r (nx st).2 → Calls Try.prog 26 #[.pointer (some ⟨r, 0, none⟩), .int .i64 (nx st).1] w1 fun e w' => e = .returned (.slice none 0 0) ∧ RdS w0 w' r none ∧ Off [r] w1 w' := fun w1 h1 => by
      cases st with
      | none => exact take_bad h1
      | some rest =>
        cases hn : getNum rest with
        | none =>
          simp only [nx, hn] at h1 ⊢
          exact take_bad h1
        | some x =>
          obtain ⟨n, r1⟩ := x
          have hnl := getNum_len hn
          obtain ⟨m, rfl⟩ : ∃ m : Nat, n = (m : Int) := ⟨n.toNat, by omega⟩
          simp only [nx, hn] at h1 ⊢
          refine take_no h1 ?_ (by omega)
          refine Classical.byContradiction fun hge => hgood ⟨rest, r1.take m, r1.drop m, rfl, ?_⟩
          simp only [getPiece, hn, Int.toNat_natCast]
          rw [if_neg (by omega)]
    have HBAD := hide hbad
    clear hbad hgood hpc hlen h hB
    generalize (nx st).1 = n at *
    generalize (nx st).2 = st1 at *
    go_enter Try.func27, Try.ntmps27
    go_wp2_with fail
    refine HC.out.mono ?_
    rintro e w1 ⟨rfl, h1, hO1⟩
    have HC2 := hide (HBAD.out w1 h1)
    have HO1 := hide hO1
    clear h1 hO1 HC
    go_wp2_with fail
    refine HC2.out.mono ?_
    rintro e w2 ⟨rfl, h2, hO2⟩
    have HP : Hid (BytesEnd w0 w r ([], none) (.returned (.slice none 0 0)) w2) := ⟨_, rfl, World.ownsRow_nil _ _ _ _, h2, HO1.out.trans hO2 (by simp)⟩
    clear h2 hO2 HC2 HO1 HBAD
    go_wp2
    go_ret
    exact HP.out
end Go.Proofs.Ytmfiafdhflaafaa
