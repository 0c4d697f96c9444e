/- The longest sign. -/
import Derived.Test.YtnbegpfbolkdiaaDoorTok
import Derived.Test.YtnbegpfbolkdiaaDoorSta
namespace Go.Proofs.YtnbegpfbolkdiaaDoor
set_option maxRecDepth 100000
open Go.RowKit
set_option linter.unusedVariables false
set_option linter.unusedSimpArgs false

theorem ext_list (s : ByteArray) (i e : Nat) : (s.extract i e).data.toList = seg s.data.toList i e := by
  unfold seg
  simp [ByteArray.data_extract, List.extract_eq_take_drop]
theorem two_beq (c d x y : UInt8) : ([c, d] == [x, y]) = decide (c = x ∧ d = y) := by
  by_cases h : c = x <;> by_cases h' : d = y <;> simp [h, h']
theorem toNat_is (c : UInt8) (n : Nat) (h : n < 256) : c.toNat = n ↔ c = UInt8.ofNat n := by
  constructor
  · intro e; subst e; simp
  · intro e; subst e; simp; omega
theorem int_is (c : UInt8) : ((c.toNat : Int) = 124) = (c = 124) := by
  have := toNat_is c 124 (by omega)
  refine propext ⟨fun h => this.1 (by omega), fun h => by have := this.2 h; omega⟩
theorem sgn_two (c d : UInt8) : (sgnB c (some d) : Nat) = if c = 60 ∧ d = 62 then 2 else if c = 60 ∧ d = 61 then 2 else if c = 62 ∧ d = 61 then 2 else if c = 124 ∧ d = 124 then 2 else if c = 124 then 0 else 1 := by
  unfold sgnB
  simp only [toNat_is c 60 (by omega), toNat_is c 62 (by omega), toNat_is c 124 (by omega), Option.some.injEq]
  show (if c = 60 ∧ (d = 62 ∨ d = 61) ∨ c = 62 ∧ d = 61 ∨ c = 124 ∧ d = 124 then 2 else if c = 124 then 0 else 1) = _
  by_cases h1 : c = 60
  · subst h1; by_cases h2 : d = 62 <;> by_cases h3 : d = 61 <;> simp [h2, h3]
  · by_cases h2 : c = 62
    · subst h2; by_cases h3 : d = 61 <;> simp [h3]
    · by_cases h3 : c = 124
      · subst h3; by_cases h4 : d = 124 <;> simp [h4]
      · simp [h1, h2, h3]
set_option maxHeartbeats 4000000 in
theorem longest_any (s : ByteArray) (w : World) (h0 : 1 ≤ s.size) (hs : s.size ≤ 140737488355328) :
    Calls Tryd.prog 32 #[.string s] w fun e w' => e = .returned (.int .i64 (sgnN s.data.toList)) ∧ w' = w := by
  have hlen : s.data.toList.length = s.size := (Lib.size_eq s).symm
  by_cases h1 : 1 < s.size
  · have h2 : (1 : Int) < (s.size : Int) := by omega
    obtain ⟨c, d, r, hr⟩ : ∃ c d r, s.data.toList = c :: d :: r := by
      match hq : s.data.toList with
      | [] => rw [hq] at hlen; simp at hlen; omega
      | [c] => rw [hq] at hlen; simp at hlen; omega
      | c :: d :: r => exact ⟨c, d, r, rfl⟩
    have HT := hide (show (s.extract 0 2).toList = [c, d] by rw [Lib.toList_data]; simp [hr])
    have HC := hide (show ∀ h : 0 < s.size, s[0] = c from fun h => by
      have : s.data.toList[0]? = some c := by rw [hr]; rfl
      have e : s.data.toList[0]? = some s[0] := by simp [ByteArray.getElem_eq_getElem_data]
      rw [e] at this; simpa using this)
    rw [hr]
    have HG := hide (show (sgnN (c :: d :: r) : Nat) = _ from sgn_two c d)
    obtain ⟨g, hg⟩ : ∃ g, sgnN (c :: d :: r) = g := ⟨_, rfl⟩
    rw [hg] at HG ⊢
    clear hr hg
    go_enter Tryd.func32, Tryd.ntmps32
    go_wp2
    all_goals go_ret
    all_goals (refine ⟨?_, rfl⟩; congr 2)
    all_goals (simp only [HT.out, HC.out, two_beq, decide_eq_true_eq, decide_eq_false_iff_not, beq_iff_eq, beq_eq_false_iff_ne, Bool.not_eq_true, ne_eq, int_is] at *)
    all_goals first | contradiction | (rw [HG.out]; simp [*]; done) | (rw [HG.out]; simp_all; done)
  · have h2 : ¬ (1 : Int) < (s.size : Int) := by omega
    obtain ⟨c, hr⟩ : ∃ c, s.data.toList = [c] := by
      match hq : s.data.toList with
      | [] => rw [hq] at hlen; simp at hlen; omega
      | [c] => exact ⟨c, rfl⟩
      | c :: d :: r => rw [hq] at hlen; simp at hlen; omega
    have HC := hide (show ∀ h : 0 < s.size, s[0] = c from fun h => by
      have : s.data.toList[0]? = some c := by rw [hr]; rfl
      have e : s.data.toList[0]? = some s[0] := by simp [ByteArray.getElem_eq_getElem_data]
      rw [e] at this; simpa using this)
    have HG : Hid (sgnN [c] = if c.toNat = 124 then 0 else 1) := by
      show sgnB c none = _
      unfold sgnB
      simp
    rw [hr]
    obtain ⟨g, hg⟩ : ∃ g, sgnN [c] = g := ⟨_, rfl⟩
    rw [hg] at HG ⊢
    clear hr hg
    go_enter Tryd.func32, Tryd.ntmps32
    go_wp2
    all_goals go_ret
    all_goals (refine ⟨?_, rfl⟩; congr 2)
    all_goals (simp only [HC.out, beq_iff_eq, beq_eq_false_iff_ne, Bool.not_eq_true] at *)
    all_goals (rw [HG.out]; first | (rw [if_pos (by omega)]; rfl) | (rw [if_neg (by omega)]; rfl))
end Go.Proofs.YtnbegpfbolkdiaaDoor
