/- slices.Min, fromOldest. -/
import Derived.Test.YtpjppolbkdnkaaaVals
namespace Go.Proofs.Ytpjppolbkdnkaaa
open Go.RowKit
set_option linter.unusedVariables false
set_option linter.unusedSimpArgs false

def iv : Value → Int | .int _ q => q | _ => 0
theorem MapI.len {w : World} {b n : Nat} {f : Int → Option Int} (h : MapI w b n f) : ∃ s : Nat, s ≤ n ∧ (∀ ty, (Builtin.len_ #[68] ty #[.map (some b)]).run Try.prog w = .ok (.int .i64 s) w) ∧ (s = 0 → ∀ k, In64 k → f k = none) ∧ (s ≠ 0 → ∃ k, In64 k ∧ (f k).isSome = true) := by
  obtain ⟨D, h1, h2⟩ := h
  refine ⟨Maps.size D, World.ownsMap.size_le h1, fun ty => h1.len Try.underlying68 ty, ?_, ?_⟩
  · intro h0 k hk
    obtain ⟨es, rfl, hko⟩ := h1.keysOf
    have he : es = [] := List.length_eq_zero_iff.1 h0
    subst he
    have := (h2 k hk).1
    cases hf : f k with
    | none => rfl
    | some y => rw [hf] at this; exact absurd this (by simp [Maps.has])
  · intro h0
    obtain ⟨es, rfl, hko⟩ := h1.keysOf
    cases es with
    | nil => exact absurd rfl h0
    | cons p ps =>
      obtain ⟨v, hv⟩ := hko p (by simp)
      obtain ⟨x, _, hx, hwf⟩ := Maps.keyOf_i64 Try.underlying3 hv
      refine ⟨x, in64 hwf, ?_⟩
      rw [← (h2 x (in64 hwf)).1]
      simp [Maps.has, hx, Lit.sameKey]

set_option maxHeartbeats 1000000 in
set_option maxRecDepth 100000 in
theorem min_any (w : World) (base : Nat) (v : Value) (ss : List Int) (h : w.ownsRow base 3 1 v ss.length (ss.map encZ)) (h0 : ss ≠ []) :
    Calls Try.prog 55 #[v] w fun e w' => ∃ m : Int, e = .returned (.int .i64 m) ∧ m ∈ ss ∧ (∀ x ∈ ss, m ≤ x) ∧ Below w.heap.size w w' := by
  obtain ⟨g, cap, cur, rfl, hbase, hg, hr1, hr2, hr3, hr4⟩ : ∃ g cap cur, v = .slice (some ⟨g, 0, none⟩) ss.length cap ∧ base ≤ g ∧ w.heap[g]? = some (.cells cur 3 (0, 0)) ∧ ss.length ≤ cap ∧ cap ≤ maxLen ∧ cur.size = cap * 1 ∧ cur.toList.take (ss.length * 1) = ss.map encZ := by
    rcases h.2 with ⟨_, h0'⟩ | h'
    · exact absurd (List.length_eq_zero_iff.1 h0') h0
    · exact h'
  have HC : Hid (∀ (i : Nat) (x : Int), ss[i]? = some x → w.cell? ⟨g, i, none⟩ = some (.int .i64 x)) := fun i x hx => by
    rw [cell_of_row _ _ _ _ _ _ hg]
    have h1 : (cur.toList.take (ss.length * 1))[i]? = some (encZ x) := by rw [hr4, List.getElem?_map, hx]; rfl
    have hi := (List.getElem?_eq_some_iff.1 hx).1
    rw [List.getElem?_take_of_lt (by omega)] at h1
    rw [← Array.getElem?_toList]
    exact h1
  clear h hr4 hr3 hg hbase
  obtain ⟨n, hn⟩ : ∃ n, ss.length = n := ⟨_, rfl⟩
  have HN := hide hn
  obtain ⟨x0, hx0⟩ : ∃ x0, ss[0]? = some x0 := ⟨_, List.getElem?_eq_getElem (by rw [hn]; cases ss; exact absurd rfl h0; simp at hn; omega)⟩
  have hn1 : 1 ≤ n := by have := (List.getElem?_eq_some_iff.1 hx0).1; omega
  have c0 := HC.out 0 x0 hx0
  have HX0 := hide hx0
  rw [hn] at hr1 ⊢
  have hl : n ≤ 9223372036854775807 := by simp only [maxLen] at hr2; omega
  clear hn h0 hx0
  go_enter Try.func55, Try.ntmps55
  go_wp2
  go_loopw [3, 4] (fun a b wr => ∃ (m : Int) (i : Nat), a = .int .i64 m ∧ b = .int .i64 i ∧ i ≤ n ∧ m ∈ ss ∧ (∀ (k : Nat) (x : Int), ss[k]? = some x → k < i → m ≤ x) ∧ Below w.heap.size w wr) (fun a b _ => n - (iv b).toNat)
  case atStart =>
    refine ⟨x0, 1, rfl, rfl, hn1, List.mem_of_getElem? HX0.out, fun k x hx hk => ?_, Below.refl _ _⟩
    obtain rfl : k = 0 := by omega
    rw [HX0.out] at hx; cases hx; exact Int.le_refl _
  case round =>
    obtain ⟨m, i, rfl, rfl, hin, hm, hle, hb⟩ := hrel
    have HLE := hide hle
    have HB := hide hb
    have HM := hide hm
    clear hle hb hm
    by_cases hlt : i < n
    · obtain ⟨x, hx⟩ : ∃ x, ss[i]? = some x := ⟨_, List.getElem?_eq_getElem (by rw [HN.out]; exact hlt)⟩
      have c1 : wr.cell? ⟨g, i, none⟩ = some (.int .i64 x) := (HB.out.cell (p := ⟨g, i, none⟩) (World.block_lt_of_cell? _ _ (HC.out i x hx))).trans (HC.out i x hx)
      have HX := hide hx
      clear hx
      by_cases hmx : x < m
      · go_wp2
        go_roundw
        case rel =>
          refine ⟨x, i + 1, ?_, by go_num, by omega, List.mem_of_getElem? HX.out, fun k y hy hk => ?_, HB.out⟩
          · go_num
          · by_cases e : k = i
            · subst e; rw [HX.out] at hy; cases hy; exact Int.le_refl _
            · have := HLE.out k y hy (by omega); omega
        case measure => simp [iv]; omega
      · go_wp2
        go_roundw
        case rel =>
          refine ⟨m, i + 1, ?_, by go_num, by omega, HM.out, fun k y hy hk => ?_, HB.out⟩
          · go_num
          · by_cases e : k = i
            · subst e; rw [HX.out] at hy; cases hy; omega
            · exact HLE.out k y hy (by omega)
        case measure => simp [iv]; omega
    · obtain rfl : i = n := by omega
      go_wp2
      go_ret
      refine ⟨m, rfl, HM.out, fun x hx => ?_, HB.out⟩
      obtain ⟨k, hk, hkx⟩ := List.mem_iff_getElem.1 hx
      exact HLE.out k x (by rw [List.getElem?_eq_getElem hk, hkx]) (by rw [← HN.out]; exact hk)

theorem LinesAt.drop {w : World} {a : Option Addr} {L : List Ln} (h : LinesAt w a L) (k : Nat) (b o : Nat) (ha : a = some ⟨b, o, none⟩) : LinesAt w (some ⟨b, o + k * 12, none⟩) (L.drop k) := by
  refine ⟨by have := h.1; simp; omega, fun i x hx => ?_⟩
  rw [List.getElem?_drop] at hx
  obtain ⟨h1, b', o', h2, h3, h4⟩ := h.2 _ _ hx
  rw [ha] at h2
  injection h2 with h2
  injection h2 with e1 e2
  subst e1; subst e2
  refine ⟨h1, b, o + k * 12, rfl, h3, ?_⟩
  have : o + k * 12 + i * 12 = o + (k + i) * 12 := by omega
  rw [this]
  exact h4
theorem LinesAt.nil (w : World) (a : Option Addr) : LinesAt w a [] := ⟨by simp, fun i x hx => by simp at hx⟩
theorem wpList_len68 {ops : Array Oper} {rest : List Oper} {o : Oper} {a : Act} {w : World} {Q : Exit → Act → World → Prop} (hg : o.guard = none) (m : Operand) (hop : o.op = Op.call { callee := Callee.builtin Builtin.len, args := #[m], argTypes := #[68] })
    (b : Nat) (v : Value) (hm : a.eval m = .map (some b)) (hrun : ∀ ty, (Builtin.len_ #[68] ty #[.map (some b)]).run Try.prog w = .ok v w) (hK : wpList Try.prog ops Q rest (a.put o.dst v) w) : wpList Try.prog ops Q (o :: rest) a w := by
  refine wpList_plain hg fun K' hK' => ?_
  unfold Oper.wp
  simp [execOp, hop, resolve, invoke, builtin, hm, hrun, Result.andThen]
  exact hK' _ _ hK
set_option maxHeartbeats 2000000 in
set_option maxRecDepth 100000 in
theorem oldest_any (w : World) (R bd n : Nat) (la : Option Addr) (cap : Nat) (L : List Ln) (f : Int → Option Int) (h0 : w.cell? ⟨R, 0, none⟩ = some (.slice la L.length cap)) (hcap : L.length ≤ cap) (hla : la = none → L = [] ∧ cap = 0) (hla2 : ∀ a, la = some a → L ≠ [] → ∃ b o, a = ⟨b, o, none⟩) (hc : w.cell? ⟨R, 2, none⟩ = some (.map (some bd))) (hM : MapI w bd n f) (hn : n ≤ 1000000000) (hL : LinesAt w la L) (hR : Rises L) :
    Calls Try.prog 40 #[.pointer (some ⟨R, 0, none⟩)] w fun e w' => ∃ (a : Option Addr) (c k : Nat), e = .returned (.slice a (L.drop k).length c) ∧ (∀ W, LinesAt W la L → LinesAt W a (L.drop k)) ∧ (∀ (i : Nat) (x : Ln), L[i]? = some x → i < k → ∀ p v, In64 p → f p = some v → x.lsn < v) ∧ Below w.heap.size w w' := by
  obtain ⟨s, hs, hlen, hs0, hs1⟩ := hM.len
  have HM := hide hM
  have HL := hide hL
  have HR := hide hR
  have HLEN := hide hlen
  obtain ⟨ln, hln⟩ : ∃ ln, L.length = ln := ⟨_, rfl⟩
  have HLN := hide hln
  have hln1 : ln ≤ 1000000 := by rw [← hln]; exact hL.1
  rw [hln] at h0 hcap
  clear hln hM hL hR hlen
  by_cases hz : s = 0
  · have HZ := hide (hs0 hz)
    subst hz
    clear hs0 hs1
    go_enter Try.func40, Try.ntmps40
    go_wp2_with (refine wpList_len68 (by rfl) _ (by rfl) bd _ (by rfl) HLEN.out ?_)
    go_ret
    refine ⟨none, 0, ln, ?_, ?_, ?_, Below.refl _ _⟩
    · rw [List.drop_eq_nil_of_le (by rw [HLN.out]; omega)]; rfl
    · intro W _; rw [List.drop_eq_nil_of_le (by rw [HLN.out]; omega)]; exact LinesAt.nil _ _
    · intro i x hx hi p v hp hv
      rw [HZ.out p hp] at hv; cases hv
  · have HZ := hide (hs1 hz)
    have hz' : ((s : Int) == 0) = false := by simp; omega
    clear hs0 hs1 hz
    have HFIND : Hid (∀ x3, Below w.heap.size w x3 → ∀ t, Calls Try.prog 54 #[.pointer (some ⟨R, 0, none⟩), .int .i64 t] x3 fun e w' => ∃ (pos : Nat) (fnd : Bool), e = .returned (.tuple #[.int .i64 (pos : Int), .bool fnd]) ∧ pos ≤ ln ∧ (∀ (i : Nat) (x : Ln), L[i]? = some x → (x.lsn < t ↔ i < pos)) ∧ Below x3.heap.size x3 w') := fun x3 hb t => by
      have e0 : x3.cell? ⟨R, 0, none⟩ = some (.slice la L.length cap) := by rw [HLN.out]; exact (hb.cell (p := ⟨R, 0, none⟩) (World.block_lt_of_cell? _ _ h0)).trans h0
      refine (find_any x3 R la cap L t e0 (HL.out.below hb) HR.out).mono ?_
      rintro e w' ⟨pos, fnd, he, h1, h2, h3, h4⟩
      exact ⟨pos, fnd, he, by rw [← HLN.out]; exact h1, h2, h4⟩
    go_enter Try.func40, Try.ntmps40
    go_upto_region 3 with (refine wpList_len68 (by rfl) _ (by rfl) bd _ (by rfl) HLEN.out ?_)
    go_wp2_with (first
      | (go_at_call 57; refine (values_any bd _).mono ?_; rintro e x1 ⟨rfl, hx1⟩
         have hB1 : Below w.heap.size w x1 := by rw [hx1]; exact (Below.refl _ _).alloc (Nat.le_refl _) _
         have HB1 := hide hB1
         have HC1 := hide (collect_any w.heap.size bd n f x1 (by rw [hx1]; exact heap_alloc_new _ _) (HM.out.stay (hB1.block bd HM.out.lt)) hn)
         clear hx1 hB1)
      | (go_at_call 56; refine HC1.out.mono ?_; rintro e x2 ⟨v, ss, rfl, hV, hrow, hB2⟩
         have HB2 : Hid (Below w.heap.size w x2) := HB1.out.trans (hB2.mono HB1.out.size)
         have HV := hide hV
         have HMIN := hide (min_any x2 _ v ss hrow (by
           obtain ⟨k, hk, hfk⟩ := HZ.out
           obtain ⟨y, hy⟩ := Option.isSome_iff_exists.1 hfk
           have := HV.out.1 k y hk hy
           intro e; rw [e] at this; cases this))
         clear hV hrow hB2)
      | (go_at_call 55; refine HMIN.out.mono ?_; rintro e x3 ⟨t, rfl, hm1, hm2, hB3⟩
         have HB3 : Hid (Below w.heap.size w x3) := HB2.out.trans (hB3.mono HB2.out.size)
         have HT := hide (And.intro hm1 hm2)
         have HF := hide (HFIND.out x3 HB3.out t)
         clear hm1 hm2 hB3)
      | (go_at_call 54; refine HF.out.mono ?_; rintro e x4 ⟨pos, fnd, rfl, hp1, hp2, hB4⟩
         have HB4 : Hid (Below w.heap.size w x4) := HB3.out.trans (hB4.mono HB3.out.size)
         have HP := hide hp2
         have c4 : x4.cell? ⟨R, 0, none⟩ = some (.slice la ln cap) := (HB4.out.cell (p := ⟨R, 0, none⟩) (World.block_lt_of_cell? _ _ h0)).trans h0
         clear hp2 hB4))
    · go_ret
      refine ⟨la, 0, pos, by rw [HLN.out]; rfl, ?_, ?_, HB4.out⟩
      · intro W _; rw [List.drop_eq_nil_of_le (by rw [HLN.out]; omega)]; exact LinesAt.nil _ _
      · intro i x hx hi p v hp hv
        have h1 := (HP.out i x hx).2 hi
        have h2 := HT.out.2 v (HV.out.1 p v hp hv)
        omega
    · go_ret
      refine ⟨_, _, pos, by rw [HLN.out]; rfl, ?_, ?_, HB4.out⟩
      · intro W hW
        cases hla' : la with
        | none =>
          obtain ⟨e, _⟩ := hla hla'
          subst e
          simpa using LinesAt.nil _ _
        | some a =>
          by_cases hne : L = []
          · subst hne
            simpa using LinesAt.nil _ _
          obtain ⟨b, o, rfl⟩ := hla2 a hla' hne
          have e : Option.map (fun x : Addr => x.add (pos * 12)) (some ⟨b, o, none⟩) = some ⟨b, o + pos * 12, none⟩ := by simp [Addr.add]
          rw [e]
          exact hW.drop pos b o hla'
      · intro i x hx hi p v hp hv
        have h1 := (HP.out i x hx).2 hi
        have h2 := HT.out.2 v (HV.out.1 p v hp hv)
        omega
end Go.Proofs.Ytpjppolbkdnkaaa
