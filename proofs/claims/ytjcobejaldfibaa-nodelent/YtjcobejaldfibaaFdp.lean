/- Keys put in and taken out, as lists. -/
import Derived.Test.YtjcobejaldfibaaPta
import Derived.Test.YtjcobejaldfibaaEnc
namespace Go.Proofs.Ytjcobejaldfibaa
open Go.RowKit
set_option linter.unusedVariables false
set_option linter.unusedSimpArgs false

theorem plc_le (L : List (List UInt8)) (K : List UInt8) : plc L K ≤ L.length := List.findIdx_le_length
theorem plc_below {L : List (List UInt8)} {K : List UInt8} {j : Nat} (hj : j < plc L K) : blt (L.getD j []) K = true := by
  have hl : j < L.length := Nat.lt_of_lt_of_le hj (plc_le L K)
  have h := List.not_of_lt_findIdx (p := fun a => !blt a K) hj
  have : L.getD j [] = L[j] := by simp [hl]
  rw [this]
  simpa using h
theorem insL_len (L : List (List UInt8)) (i : Nat) (l : List UInt8) (hi : i ≤ L.length) : (insL L i l).length = L.length + 1 := by
  unfold insL
  simp
  omega
theorem cutL_len (L : List (List UInt8)) (i : Nat) (hi : i < L.length) : (cutL L i).length = L.length - 1 := by
  unfold cutL
  simp
  omega
theorem insL_low {L : List (List UInt8)} {i j : Nat} {l : List UInt8} (hi : i ≤ L.length) (hj : j < i) : (insL L i l).getD j [] = L.getD j [] := by
  unfold insL
  rw [List.getD_eq_getElem?_getD, List.getD_eq_getElem?_getD, List.append_assoc, List.getElem?_append_left (by simp; omega), List.getElem?_take_of_lt hj]
theorem insL_at {L : List (List UInt8)} {i : Nat} {l : List UInt8} (hi : i ≤ L.length) : (insL L i l).getD i [] = l := by
  unfold insL
  rw [List.getD_eq_getElem?_getD, List.append_assoc, List.getElem?_append_right (by simp; omega)]
  simp [Nat.min_eq_left hi]
theorem cutL_low {L : List (List UInt8)} {i j : Nat} (hi : i < L.length) (hj : j < i) : (cutL L i).getD j [] = L.getD j [] := by
  unfold cutL
  rw [List.getD_eq_getElem?_getD, List.getD_eq_getElem?_getD, List.getElem?_append_left (by simp; omega), List.getElem?_take_of_lt hj]
theorem cutL_at {L : List (List UInt8)} {i : Nat} (hi : i < L.length) : (cutL L i).getD i [] = L.getD (i + 1) [] := by
  unfold cutL
  rw [List.getD_eq_getElem?_getD, List.getD_eq_getElem?_getD, List.getElem?_append_right (by simp; omega), List.getElem?_drop]
  congr 2
  simp
  omega
theorem cut_ins {L : List (List UInt8)} {i : Nat} {l : List UInt8} (hi : i ≤ L.length) : cutL (insL L i l) i = L := by
  unfold cutL insL
  have h1 : (L.take i).length = i := by simp; omega
  have h2 : (L.take i ++ [l]).length = i + 1 := by simp; omega
  have e1 : (L.take i ++ [l] ++ L.drop i).take i = L.take i := by
    rw [List.append_assoc, List.take_append_of_le_length (by omega), List.take_take, Nat.min_self]
  have e2 : (L.take i ++ [l] ++ L.drop i).drop (i + 1) = L.drop i := by
    rw [List.drop_append_of_le_length (by omega), List.drop_of_length_le (by omega), List.nil_append]
  rw [e1, e2, List.take_append_drop]
theorem ins_has {L : List (List UInt8)} {K : List UInt8} : plc (insL L (plc L K) K) K = plc L K ∧ hasK (insL L (plc L K) K) K = true := by
  have hp := plc_le L K
  have h := plc_at (L := insL L (plc L K) K) (K := K) (k := plc L K) (by rw [insL_len _ _ _ hp]; omega) (fun j hj => by rw [insL_low hp hj]; exact plc_below hj) (by rw [insL_at hp]; exact blt_irrefl K)
  rw [insL_at hp] at h
  exact ⟨h.1, by rw [h.2]; simp⟩
theorem hasK_at {L : List (List UInt8)} {K : List UInt8} (h : hasK L K = true) : L.getD (plc L K) [] = K := by
  unfold hasK at h
  simp only [Bool.and_eq_true, decide_eq_true_eq] at h
  exact h.2
theorem cut_hasnt {L : List (List UInt8)} {K : List UInt8} (h : hasK L K = true) (hr : ∀ i j, i < j → j < L.length → blt (L.getD i []) (L.getD j []) = true) : hasK (cutL L (plc L K)) K = false := by
  have hp := hasK_lt h
  have ha := hasK_at h
  by_cases hl : plc L K + 1 < L.length
  · have hb := hr _ _ (Nat.lt_succ_self (plc L K)) hl
    rw [ha] at hb
    have h := plc_at (L := cutL L (plc L K)) (K := K) (k := plc L K) (by rw [cutL_len _ _ hp]; omega) (fun j hj => by rw [cutL_low hp hj]; exact plc_below hj) (by rw [cutL_at hp]; exact blt_asymm hb)
    rw [h.2, cutL_at hp]
    refine decide_eq_false (fun e => ?_)
    rw [show (plc L K).succ = plc L K + 1 from rfl, e, blt_irrefl] at hb
    cases hb
  · refine (plc_end (L := cutL L (plc L K)) (fun j hj => ?_)).2
    rw [cutL_len _ _ hp] at hj
    rw [cutL_low hp (by omega)]
    exact plc_below (by omega)
theorem putN_leaf (N : Nd) (K V : List UInt8) : (putN N K V).leaf = N.leaf := by
  unfold putN
  split
  · split <;> rfl
  · rfl
theorem putN_next (N : Nd) (K V : List UInt8) : (putN N K V).next = N.next := by
  unfold putN
  split
  · split <;> rfl
  · rfl
theorem delN_leaf (N : Nd) (K : List UInt8) : (delN N K).leaf = N.leaf := by
  unfold delN
  split <;> rfl
theorem delN_next (N : Nd) (K : List UInt8) : (delN N K).next = N.next := by
  unfold delN
  split <;> rfl
theorem putN_inner {N : Nd} {K V : List UInt8} (h : N.leaf = false) : putN N K V = N := by
  unfold putN
  simp [h]
theorem delN_inner {N : Nd} {K : List UInt8} (h : N.leaf = false) : delN N K = N ∧ delH N K = false := by
  have : delH N K = false := by simp [delH, h]
  exact ⟨by unfold delN; rw [this]; rfl, this⟩
theorem delN_not {N : Nd} {K : List UInt8} (h : delH N K = false) : delN N K = N := by
  unfold delN
  rw [h]
  rfl
theorem delH_leaf {N : Nd} {K : List UInt8} (h : N.leaf = true) (hm : N.matched = true) : delH N K = hasK N.keys K := by simp [delH, h, hm]
theorem putN_yes {N : Nd} {K V : List UInt8} (h : N.leaf = true) (hm : N.matched = true) (hk : hasK N.keys K = true) : putN N K V = setN N (plc N.keys K) V := by simp [putN, h, hm, hk]
theorem putN_new {N : Nd} {K V : List UInt8} (h : N.leaf = true) (hm : N.matched = true) (hk : hasK N.keys K = false) : putN N K V = insN N (plc N.keys K) K V := by simp [putN, h, hm, hk]
theorem delN_yes {N : Nd} {K : List UInt8} (h : N.leaf = true) (hm : N.matched = true) (hk : hasK N.keys K = true) : delN N K = cutN N (plc N.keys K) := by
  have : delH N K = true := by rw [delH_leaf h hm]; exact hk
  unfold delN
  rw [this]
  rfl
theorem matched_len {N : Nd} (h : N.leaf = true) (hm : N.matched = true) : N.vals.length = N.keys.length ∧ N.kids.length = 0 := by
  unfold Nd.matched at hm
  rw [h] at hm
  simpa using hm
/-- A leaf with its keys and values put in and taken out: what the law asks. -/
structure PutIs (N P : Nd) (K V : List UInt8) : Prop where
  leaf : P.leaf = true
  next : P.next = N.next
  at' : plc P.keys K = plc N.keys K
  has : hasK P.keys K = true
  long : plc N.keys K < P.vals.length
  val : P.vals.getD (plc N.keys K) [] = V
  len : P.keys.length = N.keys.length + (if hasK N.keys K then 0 else 1)
  matched : P.matched = true
  back : hasK N.keys K = false → delN P K = N
theorem put_is {N : Nd} {K V : List UInt8} (h : N.leaf = true) (hm : N.matched = true) : PutIs N (putN N K V) K V := by
  obtain ⟨hl, hi⟩ := matched_len h hm
  have hp := plc_le N.keys K
  cases hk : hasK N.keys K with
  | true =>
    rw [putN_yes h hm hk]
    have hlt := hasK_lt hk
    refine ⟨h, rfl, rfl, hk, by simp [setN]; omega, ?_, by simp [setN, hk], ?_, fun e => by cases e.symm.trans hk⟩
    · simp [setN, hl, hlt]
    · unfold Nd.matched
      simp [setN, h, hl, hi]
  | false =>
    rw [putN_new h hm hk]
    have h1 := insL_len N.keys (plc N.keys K) K hp
    have h2 := insL_len N.vals (plc N.keys K) V (by omega)
    have hM : (insN N (plc N.keys K) K V).matched = true := by
      unfold Nd.matched
      simp [insN, h, h1, h2, hl, hi]
    refine ⟨h, rfl, ins_has.1, ins_has.2, ?_, insL_at (by omega), ?_, hM, fun _ => ?_⟩
    · show plc N.keys K < (insL N.vals (plc N.keys K) V).length
      rw [h2]
      omega
    · show (insL N.keys (plc N.keys K) K).length = _
      rw [h1, hk]
      rfl
    · rw [delN_yes (N := insN N (plc N.keys K) K V) h hM ins_has.2]
      have e : plc (insN N (plc N.keys K) K V).keys K = plc N.keys K := ins_has.1
      rw [e]
      show cutN (insN N (plc N.keys K) K V) (plc N.keys K) = N
      have c1 : cutL (insL N.keys (plc N.keys K) K) (plc N.keys K) = N.keys := cut_ins hp
      have c2 : cutL (insL N.vals (plc N.keys K) V) (plc N.keys K) = N.vals := cut_ins (by omega)
      show Nd.mk N.leaf (cutL (insL N.keys (plc N.keys K) K) (plc N.keys K)) (cutL (insL N.vals (plc N.keys K) V) (plc N.keys K)) N.kids N.next = N
      rw [c1, c2]
theorem put_fits {N : Nd} {K V : List UInt8} (hf : Fits N) (hkl : K.length ≤ 140737488355328) (hvl : V.length ≤ 140737488355328) (hrk : (N.keys.length + 1) * 24 ≤ 140737488355328) (hrv : (N.vals.length + 1) * 24 ≤ 140737488355328) : Fits (putN N K V) := by
  have mem_ins : ∀ {L : List (List UInt8)} {i : Nat} {l k : List UInt8}, k ∈ insL L i l → k ∈ L ∨ k = l := fun {L i l k} h => by
    simp [insL] at h
    rcases h with h | h | h
    · exact .inl (List.mem_of_mem_take h)
    · exact .inr h
    · exact .inl (List.mem_of_mem_drop h)
  have len_ins : ∀ (L : List (List UInt8)) (i : Nat) (l : List UInt8), (insL L i l).length ≤ L.length + 1 := fun L i l => by
    simp [insL]
    omega
  unfold putN
  split
  · split
    · refine ⟨hf.keys, by simpa [setN] using hf.vals, hf.kids, hf.key, fun k hk => ?_⟩
      rcases List.mem_or_eq_of_mem_set hk with h | h
      · exact hf.val k h
      · rw [h]; exact hvl
    · refine ⟨?_, ?_, hf.kids, fun k hk => ?_, fun k hk => ?_⟩
      · have := len_ins N.keys (plc N.keys K) K
        show 24 * (insL N.keys (plc N.keys K) K).length ≤ _
        omega
      · have := len_ins N.vals (plc N.keys K) V
        show 24 * (insL N.vals (plc N.keys K) V).length ≤ _
        omega
      · rcases mem_ins hk with h | h
        · exact hf.key k h
        · rw [h]; exact hkl
      · rcases mem_ins hk with h | h
        · exact hf.val k h
        · rw [h]; exact hvl
  · exact hf
theorem del_fits {N : Nd} {K : List UInt8} (hf : Fits N) : Fits (delN N K) := by
  have mem_cut : ∀ {L : List (List UInt8)} {i : Nat} {k : List UInt8}, k ∈ cutL L i → k ∈ L := fun {L i k} h => by
    simp [cutL] at h
    rcases h with h | h
    · exact List.mem_of_mem_take h
    · exact List.mem_of_mem_drop h
  have len_cut : ∀ (L : List (List UInt8)) (i : Nat), (cutL L i).length ≤ L.length := fun L i => by
    simp [cutL]
    omega
  unfold delN
  split
  · refine ⟨?_, ?_, hf.kids, fun k hk => hf.key k (mem_cut hk), fun k hk => hf.val k (mem_cut hk)⟩
    · have := len_cut N.keys (plc N.keys K)
      have := hf.keys
      show 24 * (cutL N.keys (plc N.keys K)).length ≤ _
      omega
    · have := len_cut N.vals (plc N.keys K)
      have := hf.vals
      show 24 * (cutL N.vals (plc N.keys K)).length ≤ _
      omega
  · exact hf
end Go.Proofs.Ytjcobejaldfibaa
