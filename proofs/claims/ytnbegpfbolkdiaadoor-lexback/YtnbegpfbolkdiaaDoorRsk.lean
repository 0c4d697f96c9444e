/- The document's skip. -/
import Derived.Test.YtnbegpfbolkdiaaDoorKds
import Derived.Test.YtnbegpfbolkdiaaDoorTok
namespace Go.Proofs.YtnbegpfbolkdiaaDoor
set_option maxRecDepth 100000
open Go.RowKit
set_option linter.unusedVariables false
set_option linter.unusedSimpArgs false

def restQ (n : Nat) : Value → Nat
  | .int _ z => n - z.toNat
  | _ => 0
theorem kd_at_byte (s : ByteArray) (i : Nat) (h : i < s.size) : kdAt s.data.toList i = kdB s[i] := by
  have hlen : s.data.toList.length = s.size := (Lib.size_eq s).symm
  rw [kdAt_in (by omega)]
  rfl
theorem byte_is (c : UInt8) (n : Nat) (h : n < 256) : (c.toNat : Int) = (n : Int) ↔ c = UInt8.ofNat n := by
  constructor
  · intro e
    have : c.toNat = n := by omega
    subst this; simp
  · intro e; subst e; simp; omega
set_option maxHeartbeats 4000000 in
theorem refSkip_any (s : ByteArray) (i0 : Nat) (w : World) (hi : i0 ≤ s.size) (hs : s.size ≤ 1073741824) :
    Calls Tryd.prog 17 #[.string s, .int .i64 (i0 : Int)] w fun e w' => e = .returned (.int .i64 (skipTo s.data.toList false i0)) ∧ w' = w := by
  have hlen : s.data.toList.length = s.size := (Lib.size_eq s).symm
  obtain ⟨E, hE⟩ : ∃ E, skipTo s.data.toList false i0 = E := ⟨_, rfl⟩
  rw [hE]
  have HLEN := hide hlen
  clear hlen
  go_enter Tryd.func17, Tryd.ntmps17
  go_wp2
  go_loopw [1] (fun z wr => ∃ i : Nat, i ≤ s.size ∧ z = .int .i64 (i : Int) ∧ skipTo s.data.toList false i = E ∧ wr = w) (fun z _ => restQ s.size z)
  case atStart => exact ⟨i0, hi, rfl, hE, rfl⟩
  case round =>
    clear hE hi
    obtain ⟨i, hi, rfl, hE, rfl⟩ := hrel
    by_cases hlt : i < s.size
    · have hlt' : (i : Int) < (s.size : Int) := by omega
      obtain ⟨c, hc⟩ : ∃ c : UInt8, s[i] = c := ⟨_, rfl⟩
      have hk : kdAt s.data.toList i = kdB c := by rw [kd_at_byte s i hlt, hc]
      have hkd := kd_all c
      have HW := hide (white_any c)
      by_cases hw : isW c = true
      · have HS : Hid (skipTo s.data.toList false (i + 1) = E) := by
          rw [Hid, ← skip_white (by rw [hk]; exact hkd.2.2.1.1 hw)]; exact hE
        rw [hw] at HW
        clear hE hk hkd
        go_wp2_with (first | (go_at_call 30; refine (HW.out _).mono ?_; rintro e w' ⟨rfl, hw⟩; have hw := hw.symm; subst hw))
        go_roundw
        case rel => exact ⟨i + 1, hlt, by simp, HS.out, trivial⟩
        case measure => simp [restQ]; omega
      · have hw0 : isW c = false := by simpa using hw
        have h23 : kdB c ≠ 2 ∧ kdB c ≠ 3 := by
          constructor
          · intro e; exact hw (hkd.2.2.1.2 (.inl e))
          · intro e; exact hw (hkd.2.2.1.2 (.inr e))
        rw [hw0] at HW
        obtain ⟨x, hx⟩ : ∃ x : Int, (c.toNat : Int) = x := ⟨_, rfl⟩
        have hxk : x = 45 ↔ kdB c = 7 := by rw [← hx, show (45 : Int) = ((45 : Nat) : Int) from rfl, byte_is c 45 (by omega)]; exact hkd.2.2.2.2.1
        have hx0 : 0 ≤ x := by omega
        have hx1 : x < 256 := by have := c.toNat_lt; omega
        have HSTOP : Hid (¬ (kdAt s.data.toList i = 7 ∧ kdAt s.data.toList (i + 1) = 7) → i = E) := fun h => by
          rw [← hE]; exact (skip_stop (by rw [hk]; exact h23.1) (by rw [hk]; exact h23.2) h).symm
        have HDASH : Hid (kdAt s.data.toList i = 7 → kdAt s.data.toList (i + 1) = 7 → skipTo s.data.toList true i = E) := fun h h' => by rw [← skip_dash h h']; exact hE
        have HK := hide hk
        rw [hx] at HW
        clear hE hk hkd hw
        by_cases h45 : x = 45
        · have hk7 : kdB c = 7 := hxk.1 h45
          subst h45
          by_cases h1 : i + 1 < s.size
          · have h1' : (i : Int) + 1 < (s.size : Int) := by omega
            obtain ⟨d, hd⟩ : ∃ d : UInt8, s[i + 1] = d := ⟨_, rfl⟩
            have hkd1 : kdAt s.data.toList (i + 1) = kdB d := by rw [kd_at_byte s (i + 1) h1, hd]
            have hkdd := (kd_all d).2.2.2.2.1
            obtain ⟨y, hy⟩ : ∃ y : Int, (d.toNat : Int) = y := ⟨_, rfl⟩
            have hyk : y = 45 ↔ kdB d = 7 := by rw [← hy, show (45 : Int) = ((45 : Nat) : Int) from rfl, byte_is d 45 (by omega)]; exact hkdd
            by_cases hy45 : y = 45
            · have hS := HDASH.out (by rw [HK.out]; exact hk7) (by rw [hkd1]; exact hyk.1 hy45)
              have HS := hide hS
              subst hy45
              clear hS hkd1 hkdd hyk hxk h23 HDASH HSTOP
              have HK7 : Hid (kdAt s.data.toList i = 7) := by rw [Hid, HK.out]; exact hk7
              go_wp2_with (first | (go_at_call 30; refine (HW.out _).mono ?_; rintro e w' ⟨rfl, hw⟩; have hw := hw.symm; subst hw))
              go_loopw [1] (fun z wr' => ∃ j : Nat, j ≤ s.size ∧ z = .int .i64 (j : Int) ∧ skipTo s.data.toList true j = E ∧ i ≤ j ∧ wr' = wr) (fun z _ => restQ s.size z)
              case atStart => exact ⟨i, hi, rfl, HS.out, Nat.le_refl _, rfl⟩
              case round =>
                clear HS
                obtain ⟨j, hj, rfl, hE, hij, rfl⟩ := hrel
                by_cases hjl : j < s.size
                · have hjl' : (j : Int) < (s.size : Int) := by omega
                  obtain ⟨f, hf⟩ : ∃ f : UInt8, s[j] = f := ⟨_, rfl⟩
                  have hkf : kdAt s.data.toList j = kdB f := by rw [kd_at_byte s j hjl, hf]
                  have hkdf := (kd_all f).2.2.2.2.2
                  obtain ⟨v, hv⟩ : ∃ v : Int, (f.toNat : Int) = v := ⟨_, rfl⟩
                  have hvk : v = 10 ↔ kdB f = 3 := by rw [← hv, show (10 : Int) = ((10 : Nat) : Int) from rfl, byte_is f 10 (by omega)]; exact hkdf
                  by_cases h10 : v = 10
                  · have h3 := hvk.1 h10
                    have HS : Hid (skipTo s.data.toList false j = E) := by rw [Hid, ← skip_out (.inl (by rw [hkf]; exact h3))]; exact hE
                    have hlt2 : i < j := by
                      rcases Nat.lt_or_ge i j with h | h
                      · exact h
                      · obtain rfl : i = j := by omega
                        have := HK7.out
                        omega
                    subst h10
                    clear hE hkf hkdf hvk
                    go_wp2
                    go_roundw
                    case rel => exact ⟨j, hj, rfl, HS.out, trivial⟩
                    case measure => simp [restQ]; omega
                  · have HS : Hid (skipTo s.data.toList true (j + 1) = E) := by
                      rw [Hid, ← skip_in (by rw [hkf]; exact fun e => h10 (hvk.2 e)) (by rw [hkf]; exact kdB_ne1 _)]; exact hE
                    have h10' : (v == 10) = false := beq_eq_false_iff_ne.2 h10
                    clear hE hkf hkdf hvk
                    go_wp2
                    go_roundw
                    case rel => exact ⟨j + 1, hjl, by simp, HS.out, by omega, trivial⟩
                    case measure => simp [restQ]; omega
                · obtain rfl : j = s.size := by omega
                  have HS : Hid (skipTo s.data.toList false s.size = E) := by
                    rw [Hid, ← skip_out (.inr (kdAt_over (by rw [HLEN.out]; exact Nat.le_refl _)))]; exact hE
                  clear hE hjl
                  go_wp2
                  go_roundw
                  case rel => exact ⟨s.size, Nat.le_refl _, rfl, HS.out, trivial⟩
                  case measure => simp [restQ]; omega
            · have hS := HSTOP.out (fun h => hy45 (hyk.2 (by rw [← hkd1]; exact h.2)))
              have HS := hide hS
              clear hS hkd1 hkdd hyk hxk h23 HDASH HSTOP
              go_wp2_with (first | (go_at_call 30; refine (HW.out _).mono ?_; rintro e w' ⟨rfl, hw⟩; have hw := hw.symm; subst hw))
              go_ret
              rw [HS.out]
              exact ⟨rfl, rfl⟩
          · have hS := HSTOP.out (fun h => by have := kdAt_over (l := s.data.toList) (i := i + 1) (by rw [HLEN.out]; omega); omega)
            have HS := hide hS
            have h1' : ¬ (i : Int) + 1 < (s.size : Int) := by omega
            clear hS hxk h23 HDASH HSTOP
            go_wp2_with (first | (go_at_call 30; refine (HW.out _).mono ?_; rintro e w' ⟨rfl, hw⟩; have hw := hw.symm; subst hw))
            go_ret
            rw [HS.out]
            exact ⟨rfl, rfl⟩
        · have hS := HSTOP.out (fun h => h45 (hxk.2 (by rw [← HK.out]; exact h.1)))
          have HS := hide hS
          clear hS hxk h23 HDASH HSTOP
          go_wp2_with (first | (go_at_call 30; refine (HW.out _).mono ?_; rintro e w' ⟨rfl, hw⟩; have hw := hw.symm; subst hw))
          go_ret
          rw [HS.out]
          exact ⟨rfl, rfl⟩
    · obtain rfl : i = s.size := by omega
      have hS : s.size = E := by
        rw [← hE]
        have := kdAt_over (l := s.data.toList) (i := s.size) (by rw [HLEN.out]; exact Nat.le_refl _)
        exact (skip_stop (by omega) (by omega) (by omega)).symm
      have HS := hide hS
      clear hS hE hlt
      go_wp2
      go_ret
      rw [← HS.out]
      exact ⟨rfl, rfl⟩
end Go.Proofs.YtnbegpfbolkdiaaDoor
