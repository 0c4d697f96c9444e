/- What a token says: a word, a number, a text. -/
import Derived.Test.YtnbegpfbolkdiaaDoorQuo
import Derived.Test.YtnbegpfbolkdiaaDoorSteps
import Derived.Test.YtnbegpfbolkdiaaDoorLib
namespace Go.Proofs.YtnbegpfbolkdiaaDoor
set_option maxRecDepth 100000
open Go.RowKit
set_option linter.unusedVariables false
set_option linter.unusedSimpArgs false

/-- What the library's variables hold: ErrRange and the greatest length of a search by bytes. -/
structure Ready (w : World) : Prop where
  range : ∃ ev, w.cell? ⟨2, 0, none⟩ = some ev ∧ (ev = .nilIface ∨ ∃ te pe, ev = .iface te pe)
  most : ∃ m : Int, w.cell? ⟨3, 0, none⟩ = some (.int .i64 m)
  size : 4 ≤ w.heap.size
theorem Ready.below {w w' : World} (h : Ready w) (hb : Below w.heap.size w w') : Ready w' := by
  obtain ⟨ev, h1, h2⟩ := h.range
  obtain ⟨m, h3⟩ := h.most
  have hs := h.size
  refine ⟨⟨ev, (hb.cell (p := ⟨2, 0, none⟩) (by show 2 < w.heap.size; omega)).trans h1, h2⟩, ⟨m, (hb.cell (p := ⟨3, 0, none⟩) (by show 3 < w.heap.size; omega)).trans h3⟩, Nat.le_trans hs hb.size⟩
theorem clone_any (s : ByteArray) (w : World) (hs : s.size ≤ 140737488355328) :
    Calls Tryd.prog 29 #[.string s] w fun e w' => e = .returned (.string s) ∧ Below w.heap.size w w' := by
  have HC : Hid (∀ w : World, Calls Tryd.prog 36 #[.string s] w fun e w' => e = .returned (.string s) ∧ Below w.heap.size w w') := fun w => Tryd.stringslite_Clone s w (by omega)
  go_enter Tryd.func29, Tryd.ntmps29
  go_wp2_with (first | (go_at_call 36; refine (HC.out _).mono ?_; rintro e w' ⟨rfl, hb⟩))
  all_goals go_ret
  all_goals exact ⟨rfl, by assumption⟩
theorem word_any (s : ByteArray) (w : World) (hs : s.size ≤ 140737488355328) (ha : ∀ (j : Nat) (b : UInt8), s.data.toList[j]? = some b → b.toNat < 128) :
    Calls Tryd.prog 26 #[.string s] w fun e w' => e = .returned (if s.size ≤ 32 then .tuple #[.string (strOf (Lib.toLowerA s.data.toList)), .bool true] else .tuple #[.string ⟨#[]⟩, .bool false]) ∧ Below w.heap.size w w' := by
  by_cases h : s.size ≤ 32
  · rw [if_pos h]
    have h' : ¬ (32 : Int) < (s.size : Int) := by omega
    have hz : (strOf (Lib.toLowerA s.data.toList)).size ≤ 140737488355328 := by
      have e : (strOf (Lib.toLowerA s.data.toList)).size = s.size := by rw [Lib.size_eq, Lib.size_eq s]; simp [strOf, Lib.toLowerA]
      omega
    have HL := hide (fun w => Tryd.strings_ToLower_ascii s w hs ha)
    obtain ⟨t, ht⟩ : ∃ t, strOf (Lib.toLowerA s.data.toList) = t := ⟨_, rfl⟩
    rw [show (⟨(Lib.toLowerA s.data.toList).toArray⟩ : ByteArray) = strOf (Lib.toLowerA s.data.toList) from rfl, ht] at HL
    rw [ht] at hz ⊢
    have HC := hide (fun w => clone_any t w hz)
    clear ht hz ha
    go_enter Tryd.func26, Tryd.ntmps26
    go_wp2_with (first | (go_at_call 33; refine (HL.out _).mono ?_; rintro e w' ⟨rfl, hb⟩) | (go_at_call 29; refine (HC.out _).mono ?_; rintro e w'' ⟨rfl, hb2⟩))
    all_goals go_ret2
    all_goals exact ⟨rfl, hb.trans (hb2.mono hb.size)⟩
  · rw [if_neg h]
    have h' : (32 : Int) < (s.size : Int) := by omega
    go_enter Tryd.func26, Tryd.ntmps26
    go_wp2
    go_ret2
    exact ⟨rfl, Below.refl _ _⟩
def numR (l : List UInt8) : Value := if l.length ≤ 19 ∧ decV l < 9223372036854775808 then .tuple #[.int .i64 (decV l : Int), .bool true] else .tuple #[.int .i64 0, .bool false]
theorem number_any (s : ByteArray) (w : World) (hs : s.size ≤ 140737488355328) (h0 : 1 ≤ s.size) (hd : ∀ c ∈ s.data.toList, isD c = true) (hr : Ready w) :
    Calls Tryd.prog 27 #[.string s] w fun e w' => e = .returned (numR s.data.toList) ∧ Below w.heap.size w w' := by
  have hlen : s.data.toList.length = s.size := (Lib.size_eq s).symm
  unfold numR
  rw [hlen]
  by_cases h : s.size ≤ 19
  · have h' : ¬ (19 : Int) < (s.size : Int) := by omega
    have ha := atoi_digits s.data.toList (by intro e; rw [e] at hlen; simp at hlen; omega) (by omega) hd
    by_cases hv : decV s.data.toList < 9223372036854775808
    · rw [if_pos ⟨h, hv⟩]
      rw [if_neg (by omega)] at ha
      have HA : Hid (∀ w : World, Calls Tryd.prog 34 #[.string s] w fun e w' => e = .returned (.tuple #[.int .i64 (decV s.data.toList : Int), .nilIface]) ∧ Below w.heap.size w w') := fun w => by
        refine (Tryd.strconv_Atoi_ok s (by omega) _ ha w).mono ?_
        rintro e w' ⟨rfl, hw | ⟨t, hw⟩⟩
        · subst hw; exact ⟨rfl, Below.refl _ _⟩
        · subst hw; exact ⟨rfl, Lib.bytesWorld_below _ _ _⟩
      obtain ⟨v, hvv⟩ : ∃ v, decV s.data.toList = v := ⟨_, rfl⟩
      rw [hvv] at HA ⊢
      clear ha hd hv hvv hr
      go_enter Tryd.func27, Tryd.ntmps27
      go_wp2_with (first | (go_at_call 34; refine (HA.out _).mono ?_; rintro e w' ⟨rfl, hb⟩))
      all_goals go_ret2
      all_goals exact ⟨rfl, hb⟩
    · rw [if_neg (by omega)]
      rw [if_pos (by omega)] at ha
      obtain ⟨ev, h1, h2⟩ := hr.range
      have HA : Hid (Calls Tryd.prog 34 #[.string s] w fun e w' => ∃ x N, e = .returned (.tuple #[.int .i64 x, .iface 77 (.pointer (some ⟨N, 0, none⟩))]) ∧ Below w.heap.size w w') := by
        refine (Tryd.strconv_Atoi_range s (by omega) ha ev w h1 h2).mono ?_
        rintro e w' ⟨N, rfl, _, _, hb⟩
        exact ⟨_, _, rfl, hb⟩
      clear ha hd hv hr h1 h2
      go_enter Tryd.func27, Tryd.ntmps27
      go_wp2_with (first | (go_at_call 34; refine HA.out.mono ?_; rintro e w' ⟨x, N, rfl, hb⟩))
      all_goals go_ret2
      all_goals exact ⟨rfl, hb⟩
  · rw [if_neg (by omega)]
    have h' : (19 : Int) < (s.size : Int) := by omega
    go_enter Tryd.func27, Tryd.ntmps27
    go_wp2
    go_ret2
    exact ⟨rfl, Below.refl _ _⟩
theorem said_any (s : ByteArray) (w : World) (hs : s.size < 4294967281) (h2 : 2 ≤ s.size) (hr : Ready w) :
    Calls Tryd.prog 28 #[.string s] w fun e w' => e = .returned (.string (strOf (unq (seg s.data.toList 1 (s.size - 1))))) ∧ Below w.heap.size w w' := by
  have hlen : s.data.toList.length = s.size := (Lib.size_eq s).symm
  have h1 : (s.extract 1 (s.size - 1)).size = s.size - 2 := by rw [ByteArray.size_extract]; omega
  obtain ⟨m, hm⟩ := hr.most
  have hco := Lib.countB_mul_le ⟨#[39, 39]⟩ (by decide) _ (s.extract 1 (s.size - 1)) (Nat.le_refl _)
  have hz2 : (⟨#[39, 39]⟩ : ByteArray).size = 2 := rfl
  have hz1 : (⟨#[39]⟩ : ByteArray).size = 1 := rfl
  have hq : Lib.replaceAll (s.extract 1 (s.size - 1)).data.toList [39, 39] [39] = unq (seg s.data.toList 1 (s.size - 1)) := by
    rw [rep_all, rep_unq]
    congr 1
    unfold seg
    simp [ByteArray.data_extract, List.extract_eq_take_drop]
  have HR : Hid (∀ w : World, w.cell? ⟨3, 0, none⟩ = some (.int .i64 m) → Calls Tryd.prog 35 #[.string (s.extract 1 (s.size - 1)), .string ⟨#[39, 39]⟩, .string ⟨#[39]⟩] w fun e w' => e = .returned (.string (strOf (unq (seg s.data.toList 1 (s.size - 1))))) ∧ Below w.heap.size w w') := fun w hm => by
    have := Tryd.strings_ReplaceAll (s.extract 1 (s.size - 1)) ⟨#[39, 39]⟩ ⟨#[39]⟩ m w (by omega) hm (by decide) (by rw [hz1]; rw [hz2] at hco; omega)
    rw [show (⟨#[39, 39]⟩ : ByteArray).data.toList = [39, 39] from rfl, show (⟨#[39]⟩ : ByteArray).data.toList = [39] from rfl, hq] at this
    exact this
  have hle : ∀ l : List UInt8, (unq l).length ≤ l.length := unq_le
  have hz : (strOf (unq (seg s.data.toList 1 (s.size - 1)))).size ≤ 140737488355328 := by
    have := hle (seg s.data.toList 1 (s.size - 1))
    rw [seg_length (by omega)] at this
    rw [Lib.size_eq]
    simp only [strOf]
    omega
  obtain ⟨t, ht⟩ : ∃ t, strOf (unq (seg s.data.toList 1 (s.size - 1))) = t := ⟨_, rfl⟩
  rw [ht] at HR hz ⊢
  have HC := hide (fun w => clone_any t w hz)
  clear ht hz hq hco hle
  have e1 : (s.size : Int) - 1 = ((s.size - 1 : Nat) : Int) := by omega
  go_enter Tryd.func28, Tryd.ntmps28
  go_wp2_with (first | (go_at_call 35; refine (HR.out _ hm).mono ?_; rintro e w' ⟨rfl, hb⟩) | (go_at_call 29; refine (HC.out _).mono ?_; rintro e w'' ⟨rfl, hb2⟩))
  all_goals go_ret
  all_goals exact ⟨rfl, hb.trans (hb2.mono hb.size)⟩
end Go.Proofs.YtnbegpfbolkdiaaDoor
