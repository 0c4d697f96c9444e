/- LexBack. -/
import Derived.Test.YtnbegpfbolkdiaaDoorTld
import Derived.Laws.Bits128
namespace Go.Proofs.YtnbegpfbolkdiaaDoor
set_option maxRecDepth 100000
open Go.RowKit
set_option linter.unusedVariables false
set_option linter.unusedSimpArgs false

theorem i64_and3 (n : Int) : bits .and .i64 n 3 = n % 4 := by
  have h3 : (BitVec.ofInt 64 3).toNat = 2 ^ 2 - 1 := by decide
  have key : (BitVec.ofInt 64 n &&& BitVec.ofInt 64 3).toNat = (n % ((2 ^ 64 : Nat) : Int)).toNat % 2 ^ 2 := by
    rw [BitVec.toNat_and, BitVec.toNat_ofInt, h3, Nat.and_two_pow_sub_one_eq_mod]
  show IntKind.i64.wrap ((BitVec.ofInt 64 n &&& BitVec.ofInt 64 3).toNat : Nat) = n % 4
  rw [key, IntKind.wrap_i64]
  omega
def sepC : Array Value := #[.string ⟨#[32]⟩, .string ⟨#[9, 10]⟩, .string ⟨#[32, 45, 45, 32, 97, 32, 39, 98, 10]⟩, .string ⟨#[13, 10, 32]⟩]
theorem sepC_get (g : Nat) (h : g < 4) : ∃ P, P ∈ seps ∧ sepC[g]? = some (.string (strOf P)) := by
  match g, h with
  | 0, _ => exact ⟨[32], by decide, rfl⟩
  | 1, _ => exact ⟨[9, 10], by decide, rfl⟩
  | 2, _ => exact ⟨[32, 45, 45, 32, 97, 32, 39, 98, 10], by decide, rfl⟩
  | 3, _ => exact ⟨[13, 10, 32], by decide, rfl⟩
theorem told_len {t : Tk} (g : Good t) : (told t).length ≤ 8194 := by
  unfold told
  split
  · have := decL_len 18 t.n (by rcases g.kind with h | h | h | h <;> first | omega | (have := h.2.2; omega))
    omega
  · split
    · have := qu_len t.t
      have := g.len
      simp only [List.length_cons, List.length_append, List.length_nil]
      omega
    · have := g.len
      omega
theorem toldAll_max {P : List UInt8} (hp : P ∈ seps) : ∀ {ts : List Tk}, (∀ t ∈ ts, Good t) → (toldAll P ts).length ≤ ts.length * 8300
  | [], _ => Nat.zero_le _
  | t :: r, h => by
    have h1 := toldAll_max hp (ts := r) (fun t ht => h t (by simp [ht]))
    have h2 := told_len (h t (by simp))
    have h3 := (sep_pos hp).2
    rw [toldAll_cons]
    simp only [List.length_append, List.length_cons]
    omega
theorem toldAll_take (P : List UInt8) (us : List Tk) (i : Nat) (h : i < us.length) : toldAll P (us.take (i + 1)) = toldAll P (us.take i) ++ told us[i] ++ P := by
  unfold toldAll
  rw [List.take_succ_eq_append_getElem h, List.flatMap_append]
  simp only [List.flatMap_cons, List.flatMap_nil, List.append_nil, List.append_assoc]
theorem getD_app (us : List Tk) (e : Tk) (i : Nat) (h : i < us.length) : (us ++ [e]).getD i Tk.zero = us[i] := by
  rw [List.getD_eq_getElem?_getD, List.getElem?_append_left h, List.getElem?_eq_getElem h]
  rfl
theorem shape_at {ms us : List Tk} {a b : Nat} (h : ms.map shape = us.map shape) (i : Nat) : shape ((ms ++ [(⟨5, [], 0, a⟩ : Tk)]).getD i Tk.zero) = shape ((us ++ [(⟨5, [], 0, b⟩ : Tk)]).getD i Tk.zero) := by
  have h1 : (ms ++ [(⟨5, [], 0, a⟩ : Tk)]).map shape = (us ++ [(⟨5, [], 0, b⟩ : Tk)]).map shape := by
    rw [List.map_append, List.map_append, h]
    rfl
  have h2 := congrArg (fun l => l[i]?) h1
  simp only [List.getElem?_map] at h2
  rw [List.getD_eq_getElem?_getD, List.getD_eq_getElem?_getD]
  cases h3 : (ms ++ [(⟨5, [], 0, a⟩ : Tk)])[i]? <;> cases h4 : (us ++ [(⟨5, [], 0, b⟩ : Tk)])[i]? <;> rw [h3, h4] at h2 <;> simp at h2 ⊢
  exact h2
theorem getD_last (us : List Tk) (e : Tk) : (us ++ [e]).getD us.length Tk.zero = e := by
  rw [List.getD_eq_getElem?_getD, List.getElem?_append_right (Nat.le_refl _), Nat.sub_self]
  rfl
set_option maxHeartbeats 4000000 in
theorem back_err (s : ByteArray) (gap : Int) (w : World) (hr : Ready w) (er pl : Nat) (hw : wordsF s.data.toList = ([], er, pl)) (her : er ≠ 0) :
    Calls Tryd.prog 6 #[.string s, .int .i64 gap] w fun e w' => e = .returned (.bool true) ∧ Below w.heap.size w w' := by
  have H1 := hide (words_any s w hr)
  unfold WordsE at H1
  rw [hw] at H1
  dsimp only at H1
  have HR := hide hr
  have HA := hide (fun w hr => awake_any w hr)
  have hne : ((er : Int) != 0) = true := by simp; omega
  have hne0 : ¬ (er : Int) = 0 := by omega
  generalize (er : Int) = z at *
  clear hw her hr
  go_enter Tryd.func6, Tryd.ntmps6
  go_wp2_with fail
  refine H1.out.mono ?_
  rintro e W1 ⟨u1, rfl, hT1⟩
  obtain ⟨ao, c, rfl, hc1, hc2⟩ := hT1.at.len
  simp only [List.length_nil]
  have HA1 := hide (HA.out W1 (HR.out.below hT1.below))
  have HB1 := hide hT1.below
  clear hT1
  go_wp2_with (first | (go_at_call 7; refine HA1.out.mono ?_; rintro e W2 ⟨rfl, hb⟩))
  go_ret
  exact ⟨rfl, HB1.out.trans (hb.mono HB1.out.size)⟩
set_option maxHeartbeats 4000000 in
theorem back_ok (s : ByteArray) (gap : Int) (w : World) (hr : Ready w) (us : List Tk) (q pl : Nat) (hw : wordsF s.data.toList = (us ++ [⟨5, [], 0, q⟩], 0, pl)) (hg : ∀ t ∈ us, Good t) (hpw : us.Pairwise (fun a b => a.p < b.p)) (hul : us.length ≤ 4096) :
    Calls Tryd.prog 6 #[.string s, .int .i64 gap] w fun e w' => e = .returned (.bool true) ∧ Below w.heap.size w w' := by
  have H1 := hide (words_any s w hr)
  unfold WordsE at H1
  rw [hw] at H1
  dsimp only at H1
  have HR := hide hr
  have HA := hide (fun w hr => awake_any w hr)
  have HG := hide hg
  have HPW := hide hpw
  clear hw hr hg hpw
  go_enter Tryd.func6, Tryd.ntmps6
  go_wp2_with fail
  refine H1.out.mono ?_
  rintro e W1 ⟨u1, rfl, hT1⟩
  obtain ⟨ao, c, rfl, hc1, hc2⟩ := hT1.at.len
  rw [List.length_append, List.length_singleton] at hc1 ⊢
  have HR1 := hide (HR.out.below hT1.below)
  have HT1 := hide hT1
  clear hT1
  obtain ⟨g, hg⟩ : ∃ g : Nat, gap % 4 = (g : Int) := ⟨(gap % 4).toNat, by omega⟩
  have hand : bits .and .i64 gap 3 = (g : Int) := by rw [i64_and3, hg]
  have hg4 : (g : Int) < 4 := by omega
  have hg4' : g < 4 := by omega
  obtain ⟨P, hP, hPc⟩ := sepC_get g hg4'
  have hcl : (W1.alloc (.cells sepC 9)).cell? ⟨W1.heap.size, g, none⟩ = some (.string (strOf P)) := by rw [cell_row (heap_alloc_new _ _)]; exact hPc
  have hbs : ∀ W : World, (Instr.buildSlice 36 4 #[(0, .string ⟨#[32]⟩), (1, .string ⟨#[9, 10]⟩), (2, .string ⟨#[32, 45, 45, 32, 97, 32, 39, 98, 10]⟩), (3, .string ⟨#[13, 10, 32]⟩)]).run Tryd.prog W = .ok (.slice (some ⟨W.heap.size, 0, none⟩) 4 4) (W.alloc (.cells sepC 9)) := fun W => by kernel_rfl
  have hel : ∀ h, ([Value.string ⟨#[32]⟩, .string ⟨#[9, 10]⟩, .string ⟨#[32, 45, 45, 32, 97, 32, 39, 98, 10]⟩, .string ⟨#[13, 10, 32]⟩] : List Value)[g]'h = .string (strOf P) := fun h => by
    have : sepC[g]? = some (([Value.string ⟨#[32]⟩, .string ⟨#[9, 10]⟩, .string ⟨#[32, 45, 45, 32, 97, 32, 39, 98, 10]⟩, .string ⟨#[13, 10, 32]⟩] : List Value)[g]'h) := by
      unfold sepC
      rw [List.getElem?_toArray, List.getElem?_eq_getElem h]
    rw [this] at hPc
    exact Option.some.inj hPc
  have HEL := hide hel
  have HT2 := hide (HT1.out.alloc (.cells #[.string ⟨#[32]⟩, .string ⟨#[9, 10]⟩, .string ⟨#[32, 45, 45, 32, 97, 32, 39, 98, 10]⟩, .string ⟨#[13, 10, 32]⟩] 9))
  have HRW2 := hide (HR1.out.below ((Below.refl _ _).alloc (Nat.le_refl _) (.cells #[.string ⟨#[32]⟩, .string ⟨#[9, 10]⟩, .string ⟨#[32, 45, 45, 32, 97, 32, 39, 98, 10]⟩, .string ⟨#[13, 10, 32]⟩] 9)))
  clear hg hPc hel hcl
  go_wp2
  simp only [HEL.out]
  obtain ⟨W2, hW2⟩ : ∃ W2, W1.alloc (.cells #[.string ⟨#[32]⟩, .string ⟨#[9, 10]⟩, .string ⟨#[32, 45, 45, 32, 97, 32, 39, 98, 10]⟩, .string ⟨#[13, 10, 32]⟩] 9) = W2 := ⟨_, rfl⟩
  rw [hW2] at HT2 HRW2 ⊢
  clear hW2 HEL hbs
  have HPL := hide (sep_pos hP)
  have hzP : (strOf P).size ≤ 9 := by rw [str_size]; exact HPL.out.2
  go_loopw [9, 10] (fun u z wr => ∃ i : Nat, i ≤ us.length ∧ z = .int .i64 (i : Int) ∧ u = .string (strOf (toldAll P (us.take i))) ∧ Below W2.heap.size W2 wr) (fun _ z _ => restQ us.length z)
  case atStart => exact ⟨0, Nat.zero_le _, rfl, rfl, Below.refl _ _⟩
  case round =>
    obtain ⟨i, hi, rfl, rfl, hB⟩ := hrel
    have hz : (toldAll P (us.take i)).length ≤ 4096 * 8300 := by
      have h1 := toldAll_max hP (ts := us.take i) (fun t ht => HG.out t (List.mem_of_mem_take ht))
      have h2 : (us.take i).length ≤ 4096 := by rw [List.length_take]; omega
      exact Nat.le_trans h1 (Nat.mul_le_mul_right _ h2)
    have hzA : (strOf (toldAll P (us.take i))).size ≤ 33996800 := by rw [str_size]; exact hz
    have HB := hide hB
    clear hB hz
    by_cases hlt : i < us.length
    · have hlt' : (i : Int) + 1 < (us.length : Int) + 1 := by omega
      obtain ⟨t, ht⟩ : ∃ t, us[i] = t := ⟨_, rfl⟩
      have hgt := HG.out t (by rw [← ht]; exact List.getElem_mem _)
      obtain ⟨g', o, hao, hk⟩ := (HT2.out.belowW HB.out).at.get i (by rw [List.length_append]; omega)
      rw [getD_app _ _ _ hlt, ht] at hk
      subst hao
      obtain ⟨c0, c1, c2, c3⟩ := hk
      have HTO := hide (told_any t hgt)
      have hzB : (strOf (told t)).size ≤ 8194 := by rw [str_size]; exact told_len hgt
      have HAPP : Hid (strOf (toldAll P (us.take i)) ++ strOf (told t) ++ strOf P = strOf (toldAll P (us.take (i + 1)))) := by
        rw [Hid, str_app, str_app, toldAll_take _ _ _ hlt, ht]
      obtain ⟨B, hBB⟩ : ∃ B, strOf (told t) = B := ⟨_, rfl⟩
      obtain ⟨C, hCC⟩ : ∃ C, strOf P = C := ⟨_, rfl⟩
      obtain ⟨A, hAA⟩ : ∃ A, strOf (toldAll P (us.take i)) = A := ⟨_, rfl⟩
      rw [hBB] at HTO hzB
      rw [hAA, hBB, hCC] at HAPP
      rw [hCC] at hzP ⊢
      rw [hAA] at hzA ⊢
      have hn0 : ¬ (t.n : Int) < 0 := by omega
      have hidx : (i : Int) < (us.length : Int) + 1 := by omega
      clear hAA hBB ht hgt
      by_cases hk2 : t.k = 2
      · have hk2' : ((t.k : Int) == 2) = true := beq_iff_eq.2 (by omega)
        unfold tokV at HTO
        generalize (t.k : Int) = tk at *
        go_wp2_with (first | (go_at_call 15; refine (HTO.out _).mono ?_; rintro e W3 ⟨rfl, hB3⟩))
        go_roundw
        case rel => exact ⟨i + 1, hlt, by simp, by rw [HAPP.out], HB.out.trans (hB3.mono HB.out.size)⟩
        case measure => simp [restQ]; omega
      · have hk2' : ((t.k : Int) == 2) = false := beq_eq_false_iff_ne.2 (by omega)
        unfold tokV at HTO
        generalize (t.k : Int) = tk at *
        go_wp2_with (first | (go_at_call 15; refine (HTO.out _).mono ?_; rintro e W3 ⟨rfl, hB3⟩))
        go_roundw
        case rel => exact ⟨i + 1, hlt, by simp, by rw [HAPP.out], HB.out.trans (hB3.mono HB.out.size)⟩
        case measure => simp [restQ]; omega
    · obtain rfl : i = us.length := by omega
      rw [List.take_length] at hzA ⊢
      have HRR := hide (HRW2.out.below HB.out)
      have HTB := hide (HT2.out.belowW HB.out)
      have hnlt : ¬ ((us.length : Nat) : Int) + 1 < (us.length : Int) + 1 := by omega
      by_cases hbig : 4096 < (toldAll P us).length
      · have hbig' : (4096 : Int) < ((strOf (toldAll P us)).size : Int) := by rw [str_size]; omega
        have HA2 := hide (HA.out wr HRR.out)
        clear hbig
        generalize strOf (toldAll P us) = A at *
        go_wp2_with (first | (go_at_call 7; refine HA2.out.mono ?_; rintro e W3 ⟨rfl, hb⟩))
        go_ret
        exact ⟨rfl, HTB.out.below.trans (hb.mono HTB.out.below.size)⟩
      · have hbig' : ¬ (4096 : Int) < ((strOf (toldAll P us)).size : Int) := by rw [str_size]; omega
        obtain ⟨ms, q2, hwm, hsh⟩ := words_back hP (ts := us) HG.out (by omega)
        have hml : ms.length = us.length := by have := congrArg List.length hsh; simpa using this
        have HC := hide (words_any (strOf (toldAll P us)) wr HRR.out)
        unfold WordsE at HC
        rw [show (strOf (toldAll P us)).data.toList = toldAll P us by simp [strOf], hwm] at HC
        dsimp only at HC
        clear hbig hwm
        generalize strOf (toldAll P us) = A at *
        go_wp2_with fail
        refine HC.out.mono ?_
        rintro e W3 ⟨u3, rfl, hT3⟩
        obtain ⟨ao3, cc3, rfl, hc3, hc4⟩ := hT3.at.len
        rw [List.length_append, List.length_singleton, hml] at hc3 ⊢
        have HRR3 := hide (HRR.out.below hT3.below)
        have HTB3 := hide (HTB.out.belowW hT3.below)
        have HT3 := hide hT3
        have HSH := hide hsh
        have HML := hide hml
        clear hT3 hsh hml
        go_wp2
        go_loopw [14] (fun z wr' => ∃ i : Nat, i ≤ us.length + 1 ∧ z = .int .i64 (i : Int) ∧ Below W3.heap.size W3 wr') (fun z _ => restQ (us.length + 1) z)
        case atStart => exact ⟨0, Nat.zero_le _, rfl, Below.refl _ _⟩
        case round =>
          obtain ⟨i, hi, rfl, hB⟩ := hrel
          have HB2 := hide hB
          by_cases hlt : i < us.length + 1
          · have hlt' : (i : Int) < (us.length : Int) + 1 := by omega
            obtain ⟨g3, o3, e3, km⟩ := (HT3.out.belowW hB).at.get i (by rw [List.length_append, HML.out]; exact hlt)
            obtain ⟨g1, o1, e1, kl⟩ := (HTB3.out.belowW hB).at.get i (by rw [List.length_append]; exact hlt)
            have hsi := shape_at (a := q2) (b := q) HSH.out i
            have kp : ∀ j, i = j + 1 → wr.cell? ⟨g1, o1 + j * 4 + 3, none⟩ = some (.int .i64 (((us ++ [(⟨5, [], 0, q⟩ : Tk)]).getD j Tk.zero).p : Int)) := fun j hj => by
              obtain ⟨g', o', e', k'⟩ := (HTB3.out.belowW hB).at.get j (by rw [List.length_append]; omega)
              rw [e1] at e'
              simp only [Option.some.injEq, Addr.mk.injEq, and_true] at e'
              obtain ⟨rfl, rfl⟩ := e'
              exact k'.c3
            have HORD : Hid (∀ j, i = j + 1 → ((us ++ [(⟨5, [], 0, q⟩ : Tk)]).getD j Tk.zero).p < ((us ++ [(⟨5, [], 0, q⟩ : Tk)]).getD i Tk.zero).p ∨ ((us ++ [(⟨5, [], 0, q⟩ : Tk)]).getD i Tk.zero).k = 5) := fun j hj => by
              by_cases h : i < us.length
              · rw [getD_app _ _ _ h, getD_app _ _ _ (show j < us.length by omega)]
                exact .inl (List.pairwise_iff_getElem.1 HPW.out j i (by omega) h (by omega))
              · obtain rfl : i = us.length := by omega
                rw [getD_last]
                exact .inr rfl
            subst e3 e1
            generalize (ms ++ [(⟨5, [], 0, q2⟩ : Tk)]).getD i Tk.zero = tm at *
            generalize (us ++ [(⟨5, [], 0, q⟩ : Tk)]).getD i Tk.zero = tl at *
            simp only [shape, Prod.mk.injEq] at hsi
            obtain ⟨s1, s2, s3⟩ := hsi
            obtain ⟨m0, m1, m2, m3⟩ := km
            obtain ⟨l0, l1, l2, l3⟩ := kl
            rw [s1] at m0
            rw [s2] at m1
            rw [s3] at m2
            clear s1 s2 s3 m3 hB
            by_cases hi0 : i = 0
            · subst hi0
              clear kp HORD
              simp only [Nat.zero_mul, Nat.add_zero] at m0 m1 m2 l0 l1 l2 l3
              go_wp2
              go_quiet (fail)
              go_wp2
              go_roundw
              case rel => exact ⟨1, by omega, by simp, HB2.out.trans (below_drewN _ _ _)⟩
              case measure => simp [restQ]
            · obtain ⟨j, hj⟩ : ∃ j, i = j + 1 := ⟨i - 1, by omega⟩
              have p3 := kp j hj
              have ho := HORD.out j hj
              have hi1 : (0 : Int) < (i : Int) := by omega
              have hi1n : 0 < i := by omega
              have hsub : (i : Int) - 1 = (j : Int) := by omega
              have hjl : (j : Int) < (us.length : Int) + 1 := by omega
              clear kp HORD hj hi0
              generalize (us ++ [(⟨5, [], 0, q⟩ : Tk)]).getD j Tk.zero = tp at *
              by_cases hpp : (tl.p : Int) ≤ (tp.p : Int)
              · have hk5 : tl.k = 5 := by rcases ho with h | h <;> omega
                have hk5' : (tl.k : Int) = 5 := by omega
                rw [hk5'] at m0 l0
                clear ho hk5 hk5'
                go_wp2
                go_quiet (fail)
                go_wp2
                go_roundw
                case rel => exact ⟨i + 1, by omega, by simp, HB2.out.trans (below_drewN _ _ _)⟩
                case measure => simp [restQ]; omega
              · have hpd : decide ((tl.p : Int) ≤ (tp.p : Int)) = false := decide_eq_false hpp
                clear ho
                obtain ⟨zl, hzl⟩ : ∃ z : Int, (tl.p : Int) = z := ⟨_, rfl⟩
                obtain ⟨zp, hzp⟩ : ∃ z : Int, (tp.p : Int) = z := ⟨_, rfl⟩
                rw [hzl] at l3 hpd hpp
                rw [hzp] at p3 hpd hpp
                clear hzl hzp
                go_wp2
                go_quiet (fail)
                go_wp2
                go_roundw
                case rel => exact ⟨i + 1, by omega, by simp, HB2.out.trans (below_drewN _ _ _)⟩
                case measure => simp [restQ]; omega
          · obtain rfl : i = us.length + 1 := by omega
            have HA2 := hide (HA.out wr (HRR3.out.below hB))
            have HBF := hide (HTB3.out.below.trans (hB.mono HTB3.out.below.size))
            clear hB
            go_wp2_with (first | (go_at_call 7; refine HA2.out.mono ?_; rintro e W4 ⟨rfl, hb⟩))
            go_ret
            exact ⟨rfl, HBF.out.trans (hb.mono HBF.out.size)⟩
end Go.Proofs.YtnbegpfbolkdiaaDoor
