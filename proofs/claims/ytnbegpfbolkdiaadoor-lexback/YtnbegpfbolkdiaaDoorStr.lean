/- Where a token ends. -/
import Derived.Test.YtnbegpfbolkdiaaDoorLng
namespace Go.Proofs.YtnbegpfbolkdiaaDoor
set_option maxRecDepth 100000
open Go.RowKit
set_option linter.unusedVariables false
set_option linter.unusedSimpArgs false

def WdC (l : List UInt8) (i k e : Nat) : Prop := k = 1 ∧ e = runTo wd l (i + 1)
def DgC (l : List UInt8) (i k e : Nat) : Prop := (if kdAt l (runTo dg l (i + 1)) = 4 then (0, 0) else (2, runTo dg l (i + 1))) = (k, e)
def TxC (l : List UInt8) (b : Bool) (i k e : Nat) : Prop := (if txtTo l b (i + 1) = 0 then (0, 0) else (3, txtTo l b (i + 1))) = (k, e)
def SgC (l : List UInt8) (i k e : Nat) : Prop := (if sgnN (l.drop i) = 0 then (0, 0) else (4, i + sgnN (l.drop i))) = (k, e)
theorem wd_step {l : List UInt8} {i k e : Nat} (h : WdC l i k e) : (kdAt l (i + 1) = 4 ∨ kdAt l (i + 1) = 5 → i + 1 < l.length ∧ WdC l (i + 1) k e) ∧ (kdAt l (i + 1) ≠ 4 → kdAt l (i + 1) ≠ 5 → k = 1 ∧ e = i + 1) := by
  obtain ⟨rfl, rfl⟩ := h
  refine ⟨fun h => ⟨lt_of_kd (by omega), rfl, ?_⟩, fun h4 h5 => ⟨rfl, ?_⟩⟩
  · exact runTo_in (by rcases h with h | h <;> simp [h, wd]) (by omega)
  · exact runTo_out (by simp [wd, h4, h5])
theorem dg_step {l : List UInt8} {i k e : Nat} (h : DgC l i k e) : (kdAt l (i + 1) = 5 → i + 1 < l.length ∧ DgC l (i + 1) k e) ∧ (kdAt l (i + 1) = 4 → k = 0 ∧ e = 0) ∧ (kdAt l (i + 1) ≠ 5 → kdAt l (i + 1) ≠ 4 → k = 2 ∧ e = i + 1) := by
  unfold DgC at h ⊢
  refine ⟨fun h5 => ⟨lt_of_kd (by omega), ?_⟩, fun h4 => ?_, fun h5 h4 => ?_⟩
  · rw [← runTo_in (by simp [h5, dg]) (by omega)]; exact h
  · rw [runTo_out (by simp [h4, dg]), if_pos h4] at h
    injection h with a b; exact ⟨a.symm, b.symm⟩
  · rw [runTo_out (by simp [h5, dg]), if_neg h4] at h
    injection h with a b; exact ⟨a.symm, b.symm⟩
theorem tx_step {l : List UInt8} {i k e : Nat} (h : TxC l false i k e) : (kdAt l (i + 1) = 6 → i + 1 < l.length ∧ TxC l true (i + 1) k e) ∧ (kdAt l (i + 1) = 1 → k = 0 ∧ e = 0) ∧ (kdAt l (i + 1) ≠ 6 → kdAt l (i + 1) ≠ 1 → i + 1 < l.length ∧ TxC l false (i + 1) k e) := by
  unfold TxC at h ⊢
  refine ⟨fun h6 => ⟨lt_of_kd (by omega), ?_⟩, fun h1 => ?_, fun h6 h1 => ⟨lt_of_kd h1, ?_⟩⟩
  · rw [(txt_quote h6).1] at h; exact h
  · rw [(txt_end h1).1, if_pos rfl] at h
    injection h with a b; exact ⟨a.symm, b.symm⟩
  · rw [txt_in h6 h1] at h; exact h
theorem qu_step {l : List UInt8} {i k e : Nat} (h : TxC l true i k e) : (kdAt l (i + 1) = 6 → i + 1 < l.length ∧ TxC l false (i + 1) k e) ∧ (kdAt l (i + 1) ≠ 6 → k = 3 ∧ e = i + 1) := by
  unfold TxC at h ⊢
  refine ⟨fun h6 => ⟨lt_of_kd (by omega), ?_⟩, fun h6 => ?_⟩
  · rw [(txt_quote h6).2] at h; exact h
  · rw [txt_out h6, if_neg (by omega)] at h
    injection h with a b; exact ⟨a.symm, b.symm⟩
theorem str_first {l : List UInt8} {i k e : Nat} (h : strF l i = (k, e)) : (kdAt l i = 4 → i < l.length ∧ WdC l i k e) ∧ (kdAt l i = 5 → i < l.length ∧ DgC l i k e) ∧ (kdAt l i = 6 → i < l.length ∧ TxC l false i k e) ∧
    (kdAt l i = 7 ∨ kdAt l i = 8 → i < l.length ∧ SgC l i k e) ∧ (kdAt l i = 1 → k = 5 ∧ e = i) ∧ (kdAt l i ≠ 4 → kdAt l i ≠ 5 → kdAt l i ≠ 6 → kdAt l i ≠ 7 → kdAt l i ≠ 8 → kdAt l i ≠ 1 → i < l.length ∧ k = 0 ∧ e = 0) := by
  unfold strF at h
  refine ⟨fun h4 => ⟨lt_of_kd (by omega), ?_⟩, fun h5 => ⟨lt_of_kd (by omega), ?_⟩, fun h6 => ⟨lt_of_kd (by omega), ?_⟩, fun h7 => ⟨lt_of_kd (by omega), ?_⟩, fun h1 => ?_, fun h4 h5 h6 h7 h8 h1 => ⟨lt_of_kd h1, ?_⟩⟩
  · rw [if_pos h4] at h
    injection h with a b; exact ⟨a.symm, b.symm⟩
  · rw [if_neg (by omega), if_pos h5] at h
    exact h
  · rw [if_neg (by omega), if_neg (by omega), if_pos h6] at h
    exact h
  · rw [if_neg (by omega), if_neg (by omega), if_neg (by omega), if_pos h7] at h
    exact h
  · rw [if_neg (by omega), if_neg (by omega), if_neg (by omega), if_neg (by omega), if_pos h1] at h
    injection h with a b; exact ⟨a.symm, b.symm⟩
  · rw [if_neg (by omega), if_neg (by omega), if_neg (by omega), if_neg (by omega), if_neg (by omega)] at h
    injection h with a b; exact ⟨a.symm, b.symm⟩
/-- What holds at stretch's labels. -/
def StrJ (s : ByteArray) (w : World) (k e : Nat) (l m : Nat) (a : Act) (w' : World) : Prop :=
  w' = w ∧ ∃ (i : Nat), i ≤ s.size ∧ (∃ (x2 x3 x4 x5 x6 x7 x8 x9 x10 x11 x12 x13 x14 x15 x16 x17 x18 x19 x20 x21 x22 x23 x24 x25 x26 x27 x28 x29 x30 x31 x32 x33 x34 x35 x36 x37 x38 x39 x40 x41 x42 x43 x44 x45 x46 x47 x48 x49 x50 x51 x52 x53 x54 x55 x56 x57 x58 x59 x60 x61 x62 x63 x64 x65 : Value), a = ⟨#[.string s, .int .i64 (i : Int), x2, x3, x4, x5, x6, x7, x8, x9, x10, x11, x12, x13, x14, x15, x16, x17, x18, x19, x20, x21, x22, x23, x24, x25, x26, x27, x28, x29, x30, x31, x32, x33, x34, x35, x36, x37, x38, x39, x40, x41, x42, x43, x44, x45, x46, x47, x48, x49, x50, x51, x52, x53, x54, x55, x56, x57, x58, x59, x60, x61, x62, x63, x64, x65], []⟩) ∧
    ((l = 0 ∧ (i < s.size ∧ WdC s.data.toList i k e) ∧ m = s.size - i + 10) ∨ (l = 1 ∧ (i < s.size ∧ DgC s.data.toList i k e) ∧ m = s.size - i + 10) ∨ (l = 2 ∧ (i < s.size ∧ TxC s.data.toList false i k e) ∧ m = s.size - i + 10) ∨
     (l = 5 ∧ (i < s.size ∧ TxC s.data.toList true i k e) ∧ m = s.size - i + 10) ∨ (l = 3 ∧ (i < s.size ∧ SgC s.data.toList i k e) ∧ m = 5) ∨ (l = 4 ∧ (k = 0 ∧ e = 0) ∧ m = 0))
set_option maxHeartbeats 8000000 in
theorem stretch_any (s : ByteArray) (i k e : Nat) (w : World) (hi : i ≤ s.size) (hs : s.size ≤ 70368744177664) (he : strF s.data.toList i = (k, e)) :
    Calls Tryd.prog 25 #[.string s, .int .i64 (i : Int)] w fun r w' => r = .returned (.tuple #[.int .i64 (k : Int), .int .i64 (e : Int)]) ∧ w' = w := by
  have hlen : s.data.toList.length = s.size := (Lib.size_eq s).symm
  obtain ⟨K, hK⟩ : ∃ K : Int → Int, ∀ z, K z = (kdAt s.data.toList z.toNat : Int) := ⟨_, fun _ => rfl⟩
  have HK : Hid (∀ (z : Int) (w : World), 0 ≤ z → z ≤ 140737488355328 → Calls Tryd.prog 31 #[.string s, .int .i64 z] w fun e w' => e = .returned (.int .i64 (K z)) ∧ w' = w) := fun z w h0 h1 => by
    rw [hK]; exact kind_z s z w h0 h1 (by omega)
  have HKK := hide hK
  clear hK
  have e0 : ∀ i : Nat, kdAt s.data.toList i = (K (i : Int)).toNat := fun i => by rw [HKK.out]; simp
  have e1 : ∀ i : Nat, kdAt s.data.toList (i + 1) = (K ((i : Int) + 1)).toNat := fun i => by rw [HKK.out]; simp
  have HE1 := hide e1
  have HF := hide (str_first he)
  rw [e0 i, hlen] at HF
  clear he e0 e1
  have HLEN := hide hlen
  clear hlen
  go_enter Tryd.func25, Tryd.ntmps25
  go_wp2
  refine wp_scope_ghost (StrJ s w k e) ?_ ?_
  · go_wp2_with (first | (go_at_call 31; refine (HK.out _ _ (by omega) (by omega)).mono ?_; rintro e w' ⟨rfl, hw⟩; have hw := hw.symm; subst hw))
    all_goals (try simp only [beq_iff_eq, bne_iff_ne, beq_eq_false_iff_ne, Bool.not_eq_true, Bool.not_eq_false] at *)
    all_goals first
      | (go_step3; exact ⟨_, rfl, i, (by have := (HF.out.1 (by omega)).1; omega), ⟨_, _, _, _, _, _, _, _, _, _, _, _, _, _, _, _, _, _, _, _, _, _, _, _, _, _, _, _, _, _, _, _, _, _, _, _, _, _, _, _, _, _, _, _, _, _, _, _, _, _, _, _, _, _, _, _, _, _, _, _, _, _, _, _, rfl⟩, .inl ⟨rfl, HF.out.1 (by omega), rfl⟩⟩)
      | (go_step3; exact ⟨_, rfl, i, (by have := (HF.out.2.1 (by omega)).1; omega), ⟨_, _, _, _, _, _, _, _, _, _, _, _, _, _, _, _, _, _, _, _, _, _, _, _, _, _, _, _, _, _, _, _, _, _, _, _, _, _, _, _, _, _, _, _, _, _, _, _, _, _, _, _, _, _, _, _, _, _, _, _, _, _, _, _, rfl⟩, .inr (.inl ⟨rfl, HF.out.2.1 (by omega), rfl⟩)⟩)
      | (go_step3; exact ⟨_, rfl, i, (by have := (HF.out.2.2.1 (by omega)).1; omega), ⟨_, _, _, _, _, _, _, _, _, _, _, _, _, _, _, _, _, _, _, _, _, _, _, _, _, _, _, _, _, _, _, _, _, _, _, _, _, _, _, _, _, _, _, _, _, _, _, _, _, _, _, _, _, _, _, _, _, _, _, _, _, _, _, _, rfl⟩, .inr (.inr (.inl ⟨rfl, HF.out.2.2.1 (by omega), rfl⟩))⟩)
      | (go_step3; exact ⟨_, rfl, i, (by have := (HF.out.2.2.2.1 (by omega)).1; omega), ⟨_, _, _, _, _, _, _, _, _, _, _, _, _, _, _, _, _, _, _, _, _, _, _, _, _, _, _, _, _, _, _, _, _, _, _, _, _, _, _, _, _, _, _, _, _, _, _, _, _, _, _, _, _, _, _, _, _, _, _, _, _, _, _, _, rfl⟩, .inr (.inr (.inr (.inr (.inl ⟨rfl, HF.out.2.2.2.1 (by omega), rfl⟩))))⟩)
      | (go_step3; exact ⟨_, rfl, i, (by have := (HF.out.2.2.2.2.2 (by omega) (by omega) (by omega) (by omega) (by omega) (by omega)).1; omega), ⟨_, _, _, _, _, _, _, _, _, _, _, _, _, _, _, _, _, _, _, _, _, _, _, _, _, _, _, _, _, _, _, _, _, _, _, _, _, _, _, _, _, _, _, _, _, _, _, _, _, _, _, _, _, _, _, _, _, _, _, _, _, _, _, _, rfl⟩, .inr (.inr (.inr (.inr (.inr ⟨rfl, (HF.out.2.2.2.2.2 (by omega) (by omega) (by omega) (by omega) (by omega) (by omega)).2, rfl⟩))))⟩)
      | (rw [Exit.jumps_ret]; go_ret2; obtain ⟨r1, r2⟩ := HF.out.2.2.2.2.1 (by omega); subst r1; subst r2; exact ⟨rfl, rfl⟩)
  · have e1 := HE1.out
    have hlen := HLEN.out
    rintro l m a w2 ⟨rfl, i, hi0, ⟨x2, x3, x4, x5, x6, x7, x8, x9, x10, x11, x12, x13, x14, x15, x16, x17, x18, x19, x20, x21, x22, x23, x24, x25, x26, x27, x28, x29, x30, x31, x32, x33, x34, x35, x36, x37, x38, x39, x40, x41, x42, x43, x44, x45, x46, x47, x48, x49, x50, x51, x52, x53, x54, x55, x56, x57, x58, x59, x60, x61, x62, x63, x64, x65, rfl⟩, ⟨rfl, ⟨hi, hC⟩, rfl⟩ | ⟨rfl, ⟨hi, hC⟩, rfl⟩ | ⟨rfl, ⟨hi, hC⟩, rfl⟩ | ⟨rfl, ⟨hi, hC⟩, rfl⟩ | ⟨rfl, ⟨hi, hC⟩, rfl⟩ | ⟨rfl, ⟨rfl, rfl⟩, rfl⟩⟩
    all_goals refine ⟨_, rfl, ?_⟩
    · have HS := hide (wd_step hC)
      rw [e1 i, hlen] at HS
      clear hC e1 hlen HF
      go_wp2_with (first | (go_at_call 31; refine (HK.out _ _ (by omega) (by omega)).mono ?_; rintro e w' ⟨rfl, hw⟩; have hw := hw.symm; subst hw))
      all_goals (try simp only [beq_iff_eq, bne_iff_ne, beq_eq_false_iff_ne, Bool.not_eq_true, Bool.not_eq_false] at *)
      all_goals first
        | (go_step3; exact ⟨_, (by have := (HS.out.1 (by omega)).1; omega), rfl, i + 1, (by have := (HS.out.1 (by omega)).1; omega), ⟨_, _, _, _, _, _, _, _, _, _, _, _, _, _, _, _, _, _, _, _, _, _, _, _, _, _, _, _, _, _, _, _, _, _, _, _, _, _, _, _, _, _, _, _, _, _, _, _, _, _, _, _, _, _, _, _, _, _, _, _, _, _, _, _, rfl⟩, .inl ⟨rfl, HS.out.1 (by omega), rfl⟩⟩)
        | (rw [Exit.jumps_ret]; go_ret2; obtain ⟨r1, r2⟩ := HS.out.2 (by omega) (by omega); subst r1; subst r2; exact ⟨rfl, rfl⟩)
    · have HS := hide (dg_step hC)
      rw [e1 i, hlen] at HS
      clear hC e1 hlen HF
      go_wp2_with (first | (go_at_call 31; refine (HK.out _ _ (by omega) (by omega)).mono ?_; rintro e w' ⟨rfl, hw⟩; have hw := hw.symm; subst hw))
      all_goals (try simp only [beq_iff_eq, bne_iff_ne, beq_eq_false_iff_ne, Bool.not_eq_true, Bool.not_eq_false] at *)
      all_goals first
        | (go_step3; exact ⟨_, (by have := (HS.out.1 (by omega)).1; omega), rfl, i + 1, (by have := (HS.out.1 (by omega)).1; omega), ⟨_, _, _, _, _, _, _, _, _, _, _, _, _, _, _, _, _, _, _, _, _, _, _, _, _, _, _, _, _, _, _, _, _, _, _, _, _, _, _, _, _, _, _, _, _, _, _, _, _, _, _, _, _, _, _, _, _, _, _, _, _, _, _, _, rfl⟩, .inr (.inl ⟨rfl, HS.out.1 (by omega), rfl⟩)⟩)
        | (go_step3; exact ⟨_, (by omega), rfl, i + 1, (by have := ((⟨hi, HS.out.2.1 (by omega)⟩ : i < s.size ∧ (_ = 0 ∧ _ = 0))).1; omega), ⟨_, _, _, _, _, _, _, _, _, _, _, _, _, _, _, _, _, _, _, _, _, _, _, _, _, _, _, _, _, _, _, _, _, _, _, _, _, _, _, _, _, _, _, _, _, _, _, _, _, _, _, _, _, _, _, _, _, _, _, _, _, _, _, _, rfl⟩, .inr (.inr (.inr (.inr (.inr ⟨rfl, ((⟨hi, HS.out.2.1 (by omega)⟩ : i < s.size ∧ (_ = 0 ∧ _ = 0))).2, rfl⟩))))⟩)
        | (rw [Exit.jumps_ret]; go_ret2; obtain ⟨r1, r2⟩ := HS.out.2.2 (by omega) (by omega); subst r1; subst r2; exact ⟨rfl, rfl⟩)
    · have HS := hide (tx_step hC)
      rw [e1 i, hlen] at HS
      clear hC e1 hlen HF
      go_wp2_with (first | (go_at_call 31; refine (HK.out _ _ (by omega) (by omega)).mono ?_; rintro e w' ⟨rfl, hw⟩; have hw := hw.symm; subst hw))
      all_goals (try simp only [beq_iff_eq, bne_iff_ne, beq_eq_false_iff_ne, Bool.not_eq_true, Bool.not_eq_false] at *)
      all_goals first
        | (go_step3; exact ⟨_, (by have := (HS.out.1 (by omega)).1; omega), rfl, i + 1, (by have := (HS.out.1 (by omega)).1; omega), ⟨_, _, _, _, _, _, _, _, _, _, _, _, _, _, _, _, _, _, _, _, _, _, _, _, _, _, _, _, _, _, _, _, _, _, _, _, _, _, _, _, _, _, _, _, _, _, _, _, _, _, _, _, _, _, _, _, _, _, _, _, _, _, _, _, rfl⟩, .inr (.inr (.inr (.inl ⟨rfl, HS.out.1 (by omega), rfl⟩)))⟩)
        | (go_step3; exact ⟨_, (by omega), rfl, i + 1, (by have := ((⟨hi, HS.out.2.1 (by omega)⟩ : i < s.size ∧ (_ = 0 ∧ _ = 0))).1; omega), ⟨_, _, _, _, _, _, _, _, _, _, _, _, _, _, _, _, _, _, _, _, _, _, _, _, _, _, _, _, _, _, _, _, _, _, _, _, _, _, _, _, _, _, _, _, _, _, _, _, _, _, _, _, _, _, _, _, _, _, _, _, _, _, _, _, rfl⟩, .inr (.inr (.inr (.inr (.inr ⟨rfl, ((⟨hi, HS.out.2.1 (by omega)⟩ : i < s.size ∧ (_ = 0 ∧ _ = 0))).2, rfl⟩))))⟩)
        | (go_step3; exact ⟨_, (by have := (HS.out.2.2 (by omega) (by omega)).1; omega), rfl, i + 1, (by have := (HS.out.2.2 (by omega) (by omega)).1; omega), ⟨_, _, _, _, _, _, _, _, _, _, _, _, _, _, _, _, _, _, _, _, _, _, _, _, _, _, _, _, _, _, _, _, _, _, _, _, _, _, _, _, _, _, _, _, _, _, _, _, _, _, _, _, _, _, _, _, _, _, _, _, _, _, _, _, rfl⟩, .inr (.inr (.inl ⟨rfl, HS.out.2.2 (by omega) (by omega), rfl⟩))⟩)
    · have HS := hide (qu_step hC)
      rw [e1 i, hlen] at HS
      clear hC e1 hlen HF
      go_wp2_with (first | (go_at_call 31; refine (HK.out _ _ (by omega) (by omega)).mono ?_; rintro e w' ⟨rfl, hw⟩; have hw := hw.symm; subst hw))
      all_goals (try simp only [beq_iff_eq, bne_iff_ne, beq_eq_false_iff_ne, Bool.not_eq_true, Bool.not_eq_false] at *)
      all_goals first
        | (go_step3; exact ⟨_, (by have := (HS.out.1 (by omega)).1; omega), rfl, i + 1, (by have := (HS.out.1 (by omega)).1; omega), ⟨_, _, _, _, _, _, _, _, _, _, _, _, _, _, _, _, _, _, _, _, _, _, _, _, _, _, _, _, _, _, _, _, _, _, _, _, _, _, _, _, _, _, _, _, _, _, _, _, _, _, _, _, _, _, _, _, _, _, _, _, _, _, _, _, rfl⟩, .inr (.inr (.inl ⟨rfl, HS.out.1 (by omega), rfl⟩))⟩)
        | (rw [Exit.jumps_ret]; go_ret2; obtain ⟨r1, r2⟩ := HS.out.2 (by omega); subst r1; subst r2; exact ⟨rfl, rfl⟩)
    · have h1 : (s.extract i s.size).size = s.size - i := by rw [ByteArray.size_extract]; omega
      have h2 : (s.extract i s.size).data.toList = s.data.toList.drop i := by rw [ext_list]; unfold seg; exact List.take_of_length_le (by rw [List.length_drop]; omega)
      obtain ⟨g, hg⟩ : ∃ g, sgnN (s.data.toList.drop i) = g := ⟨_, rfl⟩
      have hb : g ≤ s.size - i := by have := sgn_le (s.data.toList.drop i); rw [hg, List.length_drop, hlen] at this; exact this
      have HL : Hid (∀ w, Calls Tryd.prog 32 #[.string (s.extract i s.size)] w fun e w' => e = .returned (.int .i64 (g : Int)) ∧ w' = w) := fun w => by
        have := longest_any (s.extract i s.size) w (by omega) (by omega)
        rw [h2, hg] at this
        exact this
      unfold SgC at hC
      rw [hg] at hC
      have HS := hide (show (g = 0 → k = 0 ∧ e = 0) ∧ (g ≠ 0 → k = 4 ∧ e = i + g) from ⟨fun h => by rw [if_pos h] at hC; injection hC with a b; exact ⟨a.symm, b.symm⟩, fun h => by rw [if_neg h] at hC; injection hC with a b; exact ⟨a.symm, b.symm⟩⟩)
      clear hC h1 h2 hg e1 hlen HF
      go_wp2_with (first | (go_at_call 32; refine (HL.out _).mono ?_; rintro e w' ⟨rfl, hw⟩; have hw := hw.symm; subst hw))
      all_goals (try simp only [beq_iff_eq, bne_iff_ne, beq_eq_false_iff_ne, Bool.not_eq_true, Bool.not_eq_false] at *)
      all_goals first
        | (rw [Exit.jumps_ret]; go_ret2; obtain ⟨r1, r2⟩ := HS.out.2 (by omega); subst r1; subst r2; exact ⟨rfl, rfl⟩)
        | (go_step3; go_wp2; rw [Exit.jumps_ret]; go_ret2; obtain ⟨r1, r2⟩ := HS.out.1 (by omega); subst r1; subst r2; exact ⟨rfl, rfl⟩)
    · go_wp2
      rw [Exit.jumps_ret]
      go_ret2
      exact ⟨rfl, rfl⟩
end Go.Proofs.YtnbegpfbolkdiaaDoor
