/- told: a token as it may be written. -/
import Derived.Test.YtnbegpfbolkdiaaDoorBcl
import Derived.Test.YtnbegpfbolkdiaaDoorSme
namespace Go.Proofs.YtnbegpfbolkdiaaDoor
set_option maxRecDepth 100000
open Go.RowKit
set_option linter.unusedVariables false
set_option linter.unusedSimpArgs false

theorem str_app (a b : List UInt8) : strOf a ++ strOf b = strOf (a ++ b) := by
  have : (strOf a ++ strOf b).data = (strOf (a ++ b)).data := by
    rw [ByteArray.data_append]
    simp only [strOf]
    apply Array.toList_inj.1
    simp
  cases h1 : strOf a ++ strOf b
  cases h2 : strOf (a ++ b)
  rw [h1, h2] at this
  simp_all
theorem str_size (a : List UInt8) : (strOf a).size = a.length := by rw [Lib.size_eq]; simp [strOf]
theorem qu_app (a : List UInt8) (c : UInt8) : qu (a ++ [c]) = qu a ++ (if c = 39 then [39, 39] else [c]) := by
  induction a with
  | nil => by_cases h : c = 39 <;> simp [qu, h]
  | cons d r ih =>
    by_cases h : d = 39 <;> simp [qu, h, ih]
set_option maxHeartbeats 4000000 in
theorem told_number (t : Tk) (w : World) (hk : t.k = 2) (hn : t.n < 9223372036854775808) :
    Calls Tryd.prog 15 #[tokV t] w fun e w' => e = .returned (.string (strOf (decL t.n))) ∧ Below w.heap.size w w' := by
  have hk2 : (t.k : Int) = 2 := by omega
  unfold tokV
  rw [hk2]
  obtain ⟨n, hnn⟩ : ∃ n, t.n = n := ⟨_, rfl⟩
  rw [hnn] at hn ⊢
  have HB1 := hide ((Below.refl w.heap.size w).alloc (Nat.le_refl _) (.cells #[.int .i64 2, .string (strOf t.t), .int .i64 (n : Int), .int .i64 (t.p : Int)] 29))
  go_enter Tryd.func15, Tryd.ntmps15
  go_wp2
  obtain ⟨w1, hw1⟩ : ∃ w1, w.alloc (.cells #[.int .i64 2, .string (strOf t.t), .int .i64 (n : Int), .int .i64 (t.p : Int)] 29) = w1 := ⟨_, rfl⟩
  rw [hw1] at HB1 ⊢
  clear hw1
  go_loopw [3, 4] (fun u z wr => ∃ (m : Nat) (r : List UInt8), m ≤ n ∧ z = .int .i64 (m : Int) ∧ u = .string (strOf r) ∧ decL n = decL m ++ r ∧ (decL n).length ≤ 19 ∧ Below w.heap.size w wr) (fun _ z _ => (match z with | .int _ k => k.toNat | _ => 0))
  case atStart => exact ⟨n, [], Nat.le_refl _, rfl, rfl, by simp, decL_len 18 n (by omega), HB1.out⟩
  case round =>
    obtain ⟨m, r, hm, rfl, rfl, hd, hl, hB⟩ := hrel
    have hB2 := hide hB
    clear hB
    have hrl : r.length ≤ 19 := by rw [hd, List.length_append] at hl; omega
    have hz : (strOf r).size ≤ 19 := by rw [str_size]; exact hrl
    obtain ⟨c, hc⟩ : ∃ c : UInt8, UInt8.ofNat (48 + m % 10) = c := ⟨_, rfl⟩
    have hcn : (c.toNat : Int) = 48 + (m : Int) % 10 := by rw [← hc, dig_nat (m % 10) (by omega)]; omega
    have hcv : ∀ W : World, (convert 23 9 (.slice (some ⟨W.heap.size, 0, none⟩) 1 1)).run Tryd.prog (W.alloc (.cells #[.int .u8 (c.toNat : Int)] 5)) = .ok (.string (strOf [c])) (W.alloc (.cells #[.int .u8 (c.toNat : Int)] 5)) := fun W => run_str (sl1 W c)
    have hz1 : (strOf [c]).size = 1 := by rw [str_size]; rfl
    have happ := hide (str_app [c] r)
    have hbv := buildB (c.toNat : Int)
    have hm0 : (0 : Int) ≤ (m : Int) := by omega
    have hmod : (m : Int).tmod 10 = (m : Int) % 10 := Int.tmod_eq_emod_of_nonneg hm0
    have hdiv : (m : Int).tdiv 10 = ((m / 10 : Nat) : Int) := by rw [Int.tdiv_eq_ediv_of_nonneg hm0]; omega
    rw [hcn] at hcv hbv
    by_cases h10 : m < 10
    · have hq : m / 10 = 0 := by omega
      have HR : Hid (decL n = [c] ++ r) := by
        rw [Hid, hd]
        congr 1
        unfold decL
        rw [dif_pos h10, ← hc, Nat.mod_eq_of_lt h10]
      rw [hq] at hdiv
      clear hd hc hl
      go_wp2
      go_ret
      rw [HR.out, ← happ.out]
      exact ⟨rfl, hB2.out.alloc hB2.out.size _⟩
    · have hq : ¬ (((m / 10 : Nat) : Int) = 0) := by omega
      have hqb : (((m / 10 : Nat) : Int) == 0) = false := beq_eq_false_iff_ne.2 hq
      have HR : Hid (decL n = decL (m / 10) ++ (c :: r)) := by
        rw [Hid, hd]
        conv => lhs; unfold decL
        rw [dif_neg h10, ← hc]
        simp
      have HL := hide hl
      clear hd hc hl hq
      obtain ⟨q, hqq⟩ : ∃ q, m / 10 = q := ⟨_, rfl⟩
      rw [hqq] at hdiv hqb HR
      have hqm : q < m := by omega
      clear hqq
      go_wp2
      go_roundw
      case rel => exact ⟨q, c :: r, by omega, rfl, by rw [happ.out]; rfl, HR.out, HL.out, hB2.out.alloc hB2.out.size _⟩
      case measure => simp; omega
theorem told_other (t : Tk) (w : World) (hk2 : t.k ≠ 2) (hk3 : t.k ≠ 3) :
    Calls Tryd.prog 15 #[tokV t] w fun e w' => e = .returned (.string (strOf t.t)) ∧ Below w.heap.size w w' := by
  have h2 : ((t.k : Int) == 2) = false := beq_eq_false_iff_ne.2 (by omega)
  have h3 : ((t.k : Int) == 3) = false := beq_eq_false_iff_ne.2 (by omega)
  unfold tokV
  generalize (t.k : Int) = k at *
  go_enter Tryd.func15, Tryd.ntmps15
  go_wp2
  go_ret
  exact ⟨rfl, (Below.refl _ _).alloc (Nat.le_refl _) _⟩
set_option maxHeartbeats 4000000 in
theorem told_text (t : Tk) (w : World) (hk : t.k = 3) (hl : t.t.length ≤ 4096) :
    Calls Tryd.prog 15 #[tokV t] w fun e w' => e = .returned (.string (strOf (39 :: qu t.t ++ [39]))) ∧ Below w.heap.size w w' := by
  have hk3 : (t.k : Int) = 3 := by omega
  unfold tokV
  rw [hk3]
  have HB1 := hide ((Below.refl w.heap.size w).alloc (Nat.le_refl _) (.cells #[.int .i64 3, .string (strOf t.t), .int .i64 (t.n : Int), .int .i64 (t.p : Int)] 29))
  have hSz : (strOf t.t).size = t.t.length := str_size _
  have HSL : Hid ((strOf t.t).data.toList = t.t) := by simp [Hid, strOf]
  obtain ⟨S, hS⟩ : ∃ S, strOf t.t = S := ⟨_, rfl⟩
  obtain ⟨l, hl2⟩ : ∃ l, t.t = l := ⟨_, rfl⟩
  rw [hS] at HB1 hSz HSL ⊢
  rw [hl2] at hSz hl HSL ⊢
  clear hS hl2
  have hM : ∃ M, w.heap.size = M := ⟨_, rfl⟩
  obtain ⟨M, hM⟩ := hM
  have hq := heap_alloc_new w (.cells #[.int .i64 3, .string S, .int .i64 (t.n : Int), .int .i64 (t.p : Int)] 29)
  rw [hM] at hq
  go_enter Tryd.func15, Tryd.ntmps15
  go_wp2
  obtain ⟨w1, hw1⟩ : ∃ w1, w.alloc (.cells #[.int .i64 3, .string S, .int .i64 (t.n : Int), .int .i64 (t.p : Int)] 29) = w1 := ⟨_, rfl⟩
  rw [hw1] at HB1 hq ⊢
  clear hw1
  have c1 := cell_row (o := 1) hq
  simp only [List.getElem?_toArray, List.getElem?_cons_zero, List.getElem?_cons_succ] at c1
  clear hq
  go_loopw [5, 6] (fun u z wr => ∃ (i : Nat), i ≤ l.length ∧ z = .int .i64 (i : Int) ∧ u = .string (strOf (39 :: qu (l.take i))) ∧ wr = w1) (fun _ z _ => restQ l.length z)
  case atStart => exact ⟨0, Nat.zero_le _, rfl, rfl, rfl⟩
  case round =>
    obtain ⟨i, hi, rfl, rfl, rfl⟩ := hrel
    have hz : (strOf (39 :: qu (l.take i))).size ≤ 10000 := by
      rw [str_size, List.length_cons]
      have := qu_len (l.take i)
      rw [List.length_take] at this
      omega
    have happ := hide (fun b => str_app (39 :: qu (l.take i)) b)
    obtain ⟨A, hA⟩ : ∃ A, strOf (39 :: qu (l.take i)) = A := ⟨_, rfl⟩
    have HA := hide hA
    have hzn : (39 :: qu (l.take i)).length ≤ 10000 := by rw [← str_size]; exact hz
    rw [hA] at hz happ ⊢
    clear hA
    by_cases hlt : i < l.length
    · have hlt' : (i : Int) < (S.size : Int) := by omega
      have hltS : i < S.size := by omega
      have hle' : (i : Int) + 1 ≤ (S.size : Int) := by omega
      obtain ⟨c, hc⟩ : ∃ c : UInt8, S[i] = c := ⟨_, rfl⟩
      have hlc : l[i] = c := by
        rw [← hc]
        have e : S.data.toList[i]? = some S[i] := by simp [ByteArray.getElem_eq_getElem_data]
        rw [HSL.out, List.getElem?_eq_getElem hlt] at e
        simpa using e
      have hext : S.extract i (i + 1) = strOf [c] := by
        have : (S.extract i (i + 1)).data.toList = [c] := by
          rw [ext_list, HSL.out]
          unfold seg
          rw [drop_of_lt hlt, show i + 1 - i = 1 by omega, hlc]
          rfl
        rw [← this]
        rfl
      have HN : Hid (39 :: qu (l.take (i + 1)) = (39 :: qu (l.take i)) ++ (if c = 39 then [39, 39] else [c])) := by
        rw [Hid, List.take_succ_eq_append_getElem hlt, qu_app, hlc]
        rfl
      have hz1 : (strOf [c]).size = 1 := by rw [str_size]; rfl
      obtain ⟨x, hx⟩ : ∃ x : Int, (c.toNat : Int) = x := ⟨_, rfl⟩
      have hxk : x = 39 ↔ c = 39 := by rw [← hx, show (39 : Int) = ((39 : Nat) : Int) from rfl, byte_is c 39 (by omega)]; rfl
      have hz2 : (A ++ strOf [c]).size ≤ 10001 := by rw [happ.out, str_size, List.length_append, List.length_singleton]; omega
      by_cases h39 : x = 39
      · have hc39 := hxk.1 h39
        rw [if_pos hc39] at HN
        subst h39
        have HC39 := hide hc39
        clear hxk hlc hc39
        go_wp2
        go_roundw
        case rel => exact ⟨i + 1, hlt, by simp, by rw [happ.out, show (⟨#[39]⟩ : ByteArray) = strOf [39] from rfl, str_app, HN.out, HC39.out]; simp, trivial⟩
        case measure => simp [restQ]; omega
      · have h39' : (x == 39) = false := beq_eq_false_iff_ne.2 h39
        rw [if_neg (fun e => h39 (hxk.2 e))] at HN
        clear hxk hlc
        go_wp2
        go_roundw
        case rel => exact ⟨i + 1, hlt, by simp, by rw [happ.out, HN.out], trivial⟩
        case measure => simp [restQ]; omega
    · obtain rfl : i = l.length := by omega
      have hge : ¬ ((l.length : Nat) : Int) < (S.size : Int) := by omega
      rw [List.take_length] at happ
      clear HA hzn
      go_wp2
      go_ret
      exact ⟨congrArg (fun s => Ending.returned (Value.string s)) (happ.out [39]), by first | exact HB1.out | (rw [hM] at HB1 ⊢; exact HB1.out) | (rw [← hM]; exact HB1.out)⟩
theorem told_any (t : Tk) (g : Good t) (w : World) : Calls Tryd.prog 15 #[tokV t] w fun e w' => e = .returned (.string (strOf (told t))) ∧ Below w.heap.size w w' := by
  by_cases h2 : t.k = 2
  · have hn : t.n < 9223372036854775808 := by rcases g.kind with h | h | h | h <;> first | omega | exact h.2.2
    have := told_number t w h2 hn
    unfold told
    rw [if_pos h2]
    exact this
  · by_cases h3 : t.k = 3
    · have := told_text t w h3 g.len
      unfold told
      rw [if_neg h2, if_pos h3]
      exact this
    · have := told_other t w h2 h3
      unfold told
      rw [if_neg h2, if_neg h3]
      exact this
end Go.Proofs.YtnbegpfbolkdiaaDoor
