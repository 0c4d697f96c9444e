/- A file's faces: Write, Read, mend, Open. -/
import Derived.Test.YtifoafiidplpiaaFCar
namespace Go.Proofs.Ytifoafiidplpiaa
open Go.RowKit
set_option linter.unusedVariables false
set_option linter.unusedSimpArgs false

theorem more_more (D : Dv) (a : Nat) : ∀ b, (D.more a).more b = D.more (a + b)
  | 0 => rfl
  | b + 1 => by
    show ({ (D.more a).more b with calls := wrap64 (((D.more a).more b).calls + 1) } : Dv) = { D.more (a + b) with calls := wrap64 ((D.more (a + b)).calls + 1) }
    rw [more_more D a b]
theorem more_four (D : Dv) (a i : Nat) : (D.more a).four i = D.four i := by
  unfold Dv.four
  simp only [more_newest]
theorem DevAt.wf {w : World} {p : Nat} {fp : List Nat} {D : Dv} (h : DevAt w p fp D) : D.wf := let ⟨_, _, _, x⟩ := h; x.wf
theorem DevAt.lim {w : World} {p : Nat} {fp : List Nat} {D : Dv} (h : DevAt w p fp D) : ∀ k ∈ fp, k < w.heap.size := let ⟨_, _, _, x⟩ := h; x.lim

section
variable {w : World} {q p fr n : Nat} {failed : Bool} {fp : List Nat} {D : Dv}

/-! ### Write -/
set_option maxHeartbeats 400000 in
theorem fwrite_failed (i : Int) (ao : Option Addr) (m c : Nat) (h : FileAt w q p fr n true) :
    Calls Try.prog 49 #[.pointer (some ⟨q, 0, none⟩), .int .i64 i, .slice ao m c] w fun e w' => e = .returned (.int .i64 50) ∧ w' = w := by
  have k3 := h.c3
  go_enter Try.func49, Try.ntmps49
  go_wp2
  go_ret
  exact ⟨rfl, rfl⟩
set_option maxHeartbeats 400000 in
theorem fwrite_arg (i : Int) (ao : Option Addr) (m c : Nat) (h : FileAt w q p fr n false) (hx : (i < 0 ∨ (n : Int) ≤ i) ∨ m ≠ 512) :
    Calls Try.prog 49 #[.pointer (some ⟨q, 0, none⟩), .int .i64 i, .slice ao m c] w fun e w' => e = .returned (.int .i64 1) ∧ w' = w := by
  have k3 := h.c3
  by_cases ho : i < 0 ∨ (n : Int) ≤ i
  · have HO := hide (has_out i h ho)
    clear hx ho
    go_enter Try.func49, Try.ntmps49
    go_wp2_with (go_at_call 31; refine HO.out.mono ?_; rintro e w' ⟨rfl, hw⟩; have hw := hw.symm; subst hw)
    go_ret
    exact ⟨rfl, rfl⟩
  · obtain ⟨j, rfl⟩ : ∃ j : Nat, i = j := ⟨i.toNat, by omega⟩
    have HO := hide (has_in j h (by omega))
    have hm : ((m : Int) != 512) = true := by rw [bne_iff_ne]; omega
    clear hx ho
    go_enter Try.func49, Try.ntmps49
    go_wp2_with (go_at_call 31; refine HO.out.mono ?_; rintro e w' ⟨rfl, hw⟩; have hw := hw.symm; subst hw)
    go_ret
    exact ⟨rfl, rfl⟩
theorem FileAt.fail {b : Bool} (h : FileAt w q p fr n failed) : FileAt (w.setCell ⟨q, 3, none⟩ (.bool b)) q p fr n b := by
  unfold FileAt at h ⊢
  rw [heap_setCell_same w q 3 _ _ _ h]
  rfl
set_option maxHeartbeats 400000 in
theorem fwrite_go (i g c : Nat) (bs : List UInt8) (hl : bs.length = 512) (hc : 512 ≤ c) (h : FileAt w q p fr n false) (hD : DevAt w p fp D) (hq : q ∉ fp) (hs : SrcAt w g 0 bs) (hg : g ∉ fp) (hW : D.W.length ≤ 800000) (hfr : fr ≤ 549755813888) (hi : i < n) (hn : n ≤ 34359738368) :
    Calls Try.prog 49 #[.pointer (some ⟨q, 0, none⟩), .int .i64 (i : Int), .slice (some ⟨g, 0, none⟩) 512 c] w fun e w' => e = .returned (.int .i64 (D.carJ fr i bs).1) ∧
      ∃ fp', FileAt w' q p fr n ((D.carJ fr i bs).1 != 0) ∧ DevAt w' p fp' (D.carJ fr i bs).2 ∧ Off (q :: fp) w w' ∧ (∀ k ∈ fp', k ∈ fp ∨ w.heap.size ≤ k) ∧ q ∉ fp' := by
  have k3 := h.c3
  have HO := hide (has_in i h hi)
  have HCA := hide (carry_journal (n := n) (failed := false) i g c bs hl hc ⟨h, hD, hs, Off.refl _ _, fun k hk => .inl hk, hq, hg⟩ hW hfr (by omega))
  obtain ⟨⟨x, E⟩, hX⟩ : ∃ X, D.carJ fr i bs = X := ⟨_, rfl⟩
  rw [hX] at HCA ⊢
  clear hX
  go_enter Try.func49, Try.ntmps49
  go_wp2_with (first | (go_at_call 31; refine HO.out.mono ?_; rintro e w' ⟨rfl, hw⟩; have hw := hw.symm; subst hw) | fail)
  refine HCA.out.mono ?_
  rintro e w4 ⟨rfl, fp4, hC4⟩
  have k34 := hC4.fl.c3
  have f34 := hC4.fl.fz 3
  have HC4 := hide hC4
  clear hC4 HCA HO k3
  go_wp2
  go_ret
  refine ⟨rfl, fp4, HC4.out.fl.fail, HC4.out.dev.apart ((Off.refl [q] w4).setCell _ _ (.inl (by simp))) (fun k hk hm => by simp at hm; exact HC4.out.nq (hm ▸ hk)), ?_, HC4.out.fresh, HC4.out.nq⟩
  exact (HC4.out.off.mono (fun k hk => List.mem_cons_of_mem q hk)).setCell _ _ (.inl (by simp))

/-! ### Read -/
set_option maxHeartbeats 400000 in
theorem fread_arg (i : Int) (h : FileAt w q p fr n failed) (hx : i < 0 ∨ (n : Int) ≤ i) :
    Calls Try.prog 11 #[.pointer (some ⟨q, 0, none⟩), .int .i64 i] w fun e w' => e = .returned (.tuple #[.slice none 0 0, .int .i64 1]) ∧ w' = w := by
  have HO := hide (has_out i h hx)
  clear hx
  go_enter Try.func11, Try.ntmps11
  go_wp2_with (go_at_call 31; refine HO.out.mono ?_; rintro e w' ⟨rfl, hw⟩; have hw := hw.symm; subst hw)
  go_ret2
  exact ⟨rfl, rfl⟩
set_option maxHeartbeats 400000 in
theorem fread_dead (i : Nat) (h : FileAt w q p fr n failed) (hD : DevAt w p fp D) (hq : q ∉ fp) (hd : D.dead = true) (hW : D.W.length ≤ 900000) (hfr : fr ≤ 549755813888) (hi : i < n) (hn : n ≤ 34359738368) :
    Calls Try.prog 11 #[.pointer (some ⟨q, 0, none⟩), .int .i64 (i : Int)] w fun e w' => e = .returned (.tuple #[.slice none 0 0, .int .i64 50]) ∧ Below w.heap.size w w' := by
  have HO := hide (has_in i h hi)
  have HPL := hide (place_any i h (by omega) (by omega))
  have HFE := hide (fetch_dead (fr + 5 + 4 * i) h hD hq hd hW (by omega))
  go_enter Try.func11, Try.ntmps11
  go_wp2_with (first | (go_at_call 31; refine HO.out.mono ?_; rintro e w' ⟨rfl, hw⟩; have hw := hw.symm; subst hw) | (go_at_call 33; refine HPL.out.mono ?_; rintro e w' ⟨rfl, hw⟩; have hw := hw.symm; subst hw) | (go_at_call 32; refine HFE.out.mono ?_; rintro e w4 ⟨rfl, hb⟩))
  go_ret2
  exact ⟨rfl, hb⟩
set_option maxHeartbeats 400000 in
theorem fread_ok (i : Nat) (h : FileAt w q p fr n failed) (hD : DevAt w p fp D) (hq : q ∉ fp) (hd : D.dead = false) (hW : D.W.length ≤ 900000) (hfr : fr + 5 + 4 * n ≤ D.L.length) (hi : i < n) :
    Calls Try.prog 11 #[.pointer (some ⟨q, 0, none⟩), .int .i64 (i : Int)] w fun e w' => e = .returned (.tuple #[.slice (some ⟨w.heap.size, 0, none⟩) 512 512, .int .i64 0]) ∧
      w'.heap[w.heap.size]? = some (.cells (secCells (D.four (fr + 5 + 4 * i))).toArray 5 (0, 0)) ∧ DevAt w' p fp (D.more 4) ∧ Off fp w w' := by
  have hmax := hD.wf.max
  have HO := hide (has_in i h hi)
  have HPL := hide (place_any i h (by omega) (by omega))
  have HFE := hide (fetch_ok (fr + 5 + 4 * i) h hD hq hd hW (by omega))
  go_enter Try.func11, Try.ntmps11
  go_wp2_with (first | (go_at_call 31; refine HO.out.mono ?_; rintro e w' ⟨rfl, hw⟩; have hw := hw.symm; subst hw) | (go_at_call 33; refine HPL.out.mono ?_; rintro e w' ⟨rfl, hw⟩; have hw := hw.symm; subst hw) | (go_at_call 32; refine HFE.out.mono ?_; rintro e w4 ⟨rfl, h1, h2, h3⟩))
  go_ret2
  exact ⟨rfl, h1, h2, h3⟩

/-! ### mend -/
def Dv.named (D : Dv) (fr : Nat) : Nat := beval ((D.newest fr).take 8)
def Dv.mend (D : Dv) (fr n : Nat) : Int × Dv :=
  if D.dead = true then (50, D) else if D.named fr < 1 ∨ n < D.named fr then (0, D.more 1) else (D.more 5).carP fr (D.named fr - 1) (D.four (fr + 1))

set_option maxHeartbeats 1000000 in
theorem mend_any (h : FileAt w q p fr n failed) (hD : DevAt w p fp D) (hq : q ∉ fp) (hW : D.W.length ≤ 700000) (hfr : fr + 5 + 4 * n ≤ D.L.length) :
    Calls Try.prog 28 #[.pointer (some ⟨q, 0, none⟩)] w fun e w' => e = .returned (.int .i64 (D.mend fr n).1) ∧
      ∃ fp', FileAt w' q p fr n failed ∧ DevAt w' p fp' (D.mend fr n).2 ∧ Off fp w w' ∧ (∀ k ∈ fp', k ∈ fp ∨ w.heap.size ≤ k) ∧ q ∉ fp' := by
  have hmax := hD.wf.max
  have k0 := h.c0
  have k1 := h.c1
  have HK0 := hide (fun (W : World) (ho : Off fp w W) => (h.off ho hq).c0)
  have HK1 := hide (fun (W : World) (ho : Off fp w W) => (h.off ho hq).c1)
  obtain ⟨R, hR⟩ : ∃ R, D.mend fr n = R := ⟨_, rfl⟩
  rw [hR]
  unfold Dv.mend at hR
  have HR := hide hR
  clear hR
  by_cases hd : D.dead = true
  · rw [if_pos hd] at HR
    have HRD := hide (fun d => read_dead p (fr : Int) (w.drewN d) fp D (hD.drewN d) hd)
    go_enter Try.func28, Try.ntmps28
    go_wp2
    go_region_held (fun w' => w'.cell? ⟨q, 0, none⟩ = some (.pointer (some ⟨p, 0, none⟩)) ∧ w'.cell? ⟨q, 1, none⟩ = some (.int .i64 (fr : Int))) (simp [*])
      (first | (go_at_call 45; refine (HRD.out 1).mono ?_; rintro e w4 ⟨rfl, rfl⟩))
    all_goals go_wp2
    all_goals go_ret
    all_goals
      rw [← HR.out]
      exact ⟨rfl, fp, h, hD.drewN 1, (Off.refl _ _).drewN 1, fun k hk => .inl hk, hq⟩
  · have hd' : D.dead = false := by simpa using hd
    rw [if_neg hd] at HR
    have hX := length_newest D hD.wf fr (by omega)
    have HRD := hide (fun d => read_ok p fr (w.drewN d) fp D (hD.drewN d) hd' (by omega) (by omega))
    have HX := hide hX
    have HQ := hide hq
    have HF := hide h
    have HF5 := hide (fun (W : World) (hh : FileAt W q p fr n failed) (hd : DevAt W p fp (D.more 1)) => fetch_ok (fr + 1) hh hd hq (by rw [more_dead]; exact hd') (by rw [more_W]; omega) (by rw [more_L]; omega))
    rw [more_more, more_four] at HF5
    have HL4 := hide (length_four hD.wf (fr + 1) (by omega))
    have HMW : Hid ((D.more 5).W.length ≤ 800000) := by show _ ≤ _; rw [more_W]; omega
    have hwn : IntKind.u64.wrap (n : Int) = (n : Int) := by rw [wrapU]; omega
    clear hX hD h hd hd'
    obtain ⟨v, hv⟩ : ∃ v, D.named fr = v := ⟨_, rfl⟩
    have HV : Hid (beval ((D.newest fr).take 8) = v) := hv
    rw [hv] at HR
    clear hv
    have hwv : IntKind.u64.wrap (v : Int) = (v : Int) := by
      have := beval_lt ((D.newest fr).take 8)
      rw [HV.out, List.length_take, HX.out] at this
      rw [wrapU]
      have e : 256 ^ (min 8 128) = 18446744073709551616 := by decide
      omega
    by_cases hr : v < 1 ∨ n < v
    · rw [if_pos hr] at HR
      go_enter Try.func28, Try.ntmps28
      go_wp2
      go_region_held (fun w' => w'.cell? ⟨q, 0, none⟩ = some (.pointer (some ⟨p, 0, none⟩)) ∧ w'.cell? ⟨q, 1, none⟩ = some (.int .i64 (fr : Int))) (simp [*])
        (first | (go_at_call 45; refine (HRD.out 1).mono ?_; rintro e w4 ⟨g, rfl, hg1, hg2, hD4, hO4'⟩; have hO4 : Off fp w w4 := hO4'.undrewN; clear hO4'; have k04 := HK0.out w4 hO4; have k14 := HK1.out w4 hO4))
      all_goals
        have hD4 : DevAt w4 p fp (D.more 1) := hD4
        have HNU := hide (number_any g 128 (D.newest fr) 5 (0, 0) w4 hg2 HX.out (by omega))
        rw [HV.out] at HNU
        have HD4 := hide hD4
        have HO4 := hide hO4
        have k24 := (HF.out.off hO4 HQ.out).c2
        clear hD4 hO4 hg2
        by_cases h1 : v < 1
        · go_wp2_with (first | (go_at_call 46; refine HNU.out.mono ?_; rintro e w' ⟨rfl, hw⟩; have hw := hw.symm; subst hw))
          go_ret
          rw [← HR.out]
          exact ⟨rfl, HF.out.off HO4.out HQ.out, fp, HD4.out, HO4.out, fun k hk => .inl hk, HQ.out⟩
        · have h2 : n < v := by omega
          go_wp2_with (first | (go_at_call 46; refine HNU.out.mono ?_; rintro e w' ⟨rfl, hw⟩; have hw := hw.symm; subst hw))
          go_ret
          rw [← HR.out]
          exact ⟨rfl, fp, HF.out.off HO4.out HQ.out, HD4.out, HO4.out, fun k hk => .inl hk, HQ.out⟩
    · rw [if_neg hr] at HR
      have h1 : ¬ v < 1 := fun hx => hr (.inl hx)
      have h2 : ¬ n < v := fun hx => hr (.inr hx)
      clear hr
      go_enter Try.func28, Try.ntmps28
      go_wp2
      go_region_held (fun w' => w'.cell? ⟨q, 0, none⟩ = some (.pointer (some ⟨p, 0, none⟩)) ∧ w'.cell? ⟨q, 1, none⟩ = some (.int .i64 (fr : Int))) (simp [*])
        (first | (go_at_call 45; refine (HRD.out 1).mono ?_; rintro e w4 ⟨g, rfl, hg1, hg2, hD4, hO4'⟩; have hO4 : Off fp w w4 := hO4'.undrewN; clear hO4'; have k04 := HK0.out w4 hO4; have k14 := HK1.out w4 hO4))
      all_goals
        have hD4 : DevAt w4 p fp (D.more 1) := hD4
        have HNU := hide (number_any g 128 (D.newest fr) 5 (0, 0) w4 hg2 HX.out (by omega))
        rw [HV.out] at HNU
        have HO4 := hide hO4
        have hF4 := HF.out.off hO4 HQ.out
        have k24 := hF4.c2
        have HJO := hide (journal_any hF4 (by omega))
        have HFE := hide (HF5.out w4 hF4 hD4)
        have HNIN : Hid (w4.heap.size ∉ fp) := fun hm => by have := hD4.lim _ hm; omega
        clear hD4 hO4 hg2 hF4
        have hwi : IntKind.i64.wrap (v : Int) = (v : Int) := by rw [IntKind.wrap_i64]; omega
        have hwi2 : IntKind.i64.wrap ((v : Int) - 1) = (v : Int) - 1 := by rw [IntKind.wrap_i64]; omega
        go_wp2_with (first
          | (go_at_call 46; refine HNU.out.mono ?_; rintro e w' ⟨rfl, hw⟩; have hw := hw.symm; subst hw)
          | (go_at_call 47; refine HJO.out.mono ?_; rintro e w' ⟨rfl, hw⟩; have hw := hw.symm; subst hw)
          | fail)
        refine HFE.out.mono ?_
        rintro e w6 ⟨rfl, hb6, hD6, hO6⟩
        have hF6 := (HF.out.off HO4.out HQ.out).off hO6 HQ.out
        have HCA := hide (carry_page (v - 1) w4.heap.size 512 (D.four (fr + 1)) HL4.out (by omega) ⟨hF6, hD6, SrcAt.block hb6, Off.refl _ _, fun k hk => .inl hk, HQ.out, HNIN.out⟩ HMW.out (by omega) (by omega))
        rw [show ((v - 1 : Nat) : Int) = (v : Int) - 1 by omega, HR.out] at HCA
        have HO6 := hide hO6
        clear hb6 hD6 hO6 hF6
        go_wp2_with fail
        refine HCA.out.mono ?_
        rintro e w7 ⟨rfl, fp7, hC7⟩
        have HC7 := hide hC7
        clear hC7
        go_wp2
        go_ret
        exact ⟨rfl, fp7, HC7.out.fl, HC7.out.dev, (HO4.out.trans HO6.out (fun k hk => .inl hk)).trans HC7.out.off (fun k hk => .inl hk), fresh_off (fun k hk => .inl hk) (HO4.out.trans HO6.out (fun k hk => .inl hk)) HC7.out.fresh, HC7.out.nq⟩

/-! ### Open -/
set_option maxHeartbeats 400000 in
theorem open_arg (a b : Int) (hD : DevAt w p fp D) (ha1 : -9223372036854775808 ≤ a) (ha2 : a ≤ 9223372036854775807) (hx : ¬ (1 ≤ b ∧ 0 ≤ a ∧ a + 5 + 4 * b ≤ (D.L.length : Int))) :
    Calls Try.prog 7 #[.pointer (some ⟨p, 0, none⟩), .int .i64 a, .int .i64 b] w fun e w' => e = .returned (.tuple #[.pointer none, .int .i64 1]) ∧ w' = w := by
  have HS := hide (size_dev p w fp D hD)
  have hmax := hD.wf.max
  obtain ⟨L, hL⟩ : ∃ L, D.L.length = L := ⟨_, rfl⟩
  rw [hL] at hx HS hmax
  clear hL hD
  by_cases h1 : b < 1
  · go_enter Try.func7, Try.ntmps7
    go_wp2_with (first | (go_at_call 27; refine HS.out.mono ?_; rintro e w' ⟨rfl, hw⟩; have hw := hw.symm; subst hw))
    go_ret2
    exact ⟨rfl, rfl⟩
  · by_cases h2 : a < 0
    · go_enter Try.func7, Try.ntmps7
      go_wp2_with (first | (go_at_call 27; refine HS.out.mono ?_; rintro e w' ⟨rfl, hw⟩; have hw := hw.symm; subst hw))
      go_ret2
      exact ⟨rfl, rfl⟩
    · by_cases h3 : (L : Int) < a
      · go_enter Try.func7, Try.ntmps7
        go_wp2_with (first | (go_at_call 27; refine HS.out.mono ?_; rintro e w' ⟨rfl, hw⟩; have hw := hw.symm; subst hw))
        go_ret2
        exact ⟨rfl, rfl⟩
      · have h4 : ((L : Int) - a - 5).tdiv 4 < b := by
          have : (L : Int) < a + 5 + 4 * b := by omega
          by_cases hs : 0 ≤ (L : Int) - a - 5
          · rw [Int.tdiv_eq_ediv_of_nonneg hs]; omega
          · have e : ((L : Int) - a - 5).tdiv 4 ≤ 0 := by
              have := Int.tdiv_nonneg (a := -((L : Int) - a - 5)) (b := 4) (by omega) (by omega)
              rw [Int.neg_tdiv] at this
              omega
            omega
        have d4 : decide (((L : Int) - a - 5).tdiv 4 < b) = true := by simpa using h4
        clear hx h4
        go_enter Try.func7, Try.ntmps7
        go_wp2_with (first | (go_at_call 27; refine HS.out.mono ?_; rintro e w' ⟨rfl, hw⟩; have hw := hw.symm; subst hw))
        go_ret2
        exact ⟨rfl, rfl⟩
set_option maxHeartbeats 400000 in
theorem open_go (hD : DevAt w p fp D) (hn : 1 ≤ n) (hW : D.W.length ≤ 700000) (hfr : fr + 5 + 4 * n ≤ D.L.length) :
    Calls Try.prog 7 #[.pointer (some ⟨p, 0, none⟩), .int .i64 (fr : Int), .int .i64 (n : Int)] w fun e w' =>
      e = .returned (.tuple #[.pointer (if (D.mend fr n).1 = 0 then some ⟨w.heap.size, 0, none⟩ else none), .int .i64 (D.mend fr n).1]) ∧
      ∃ fp', FileAt w' w.heap.size p fr n false ∧ DevAt w' p fp' (D.mend fr n).2 ∧ Off fp w w' ∧ (∀ k ∈ fp', k ∈ fp ∨ w.heap.size ≤ k) ∧ w.heap.size ∉ fp' := by
  have HS := hide (size_dev p w fp D hD)
  have hmax := hD.wf.max
  have hnq : w.heap.size ∉ fp := fun hm => by have := hD.lim _ hm; omega
  have HM := hide (fun (W : World) (hb : Below w.heap.size w W) (hf : FileAt W w.heap.size p fr n false) => mend_any hf (hD.below hb) hnq hW hfr)
  have d1 : decide ((n : Int) < 1) = false := by simp; omega
  have d2 : decide ((fr : Int) < 0) = false := by simp
  have d3 : decide ((D.L.length : Int) < (fr : Int)) = false := by simp; omega
  have d4 : decide (((D.L.length : Int) - (fr : Int) - 5).tdiv 4 < (n : Int)) = false := by
    rw [Int.tdiv_eq_ediv_of_nonneg (by omega)]
    simp
    omega
  obtain ⟨⟨x, E⟩, hX⟩ : ∃ X, D.mend fr n = X := ⟨_, rfl⟩
  rw [hX] at HM ⊢
  clear hX
  by_cases hx : x = 0
  · subst hx
    rw [if_pos rfl]
    go_enter Try.func7, Try.ntmps7
    go_wp2_with (first | (go_at_call 27; refine HS.out.mono ?_; rintro e w' ⟨rfl, hw⟩; have hw := hw.symm; subst hw) | fail)
    refine (HM.out _ ((Below.refl _ _).alloc (Nat.le_refl _) _) (heap_alloc_new _ _)).mono ?_
    rintro e w3 ⟨rfl, fp3, h1, h2, h3, h4, h5⟩
    go_wp2
    go_ret2
    exact ⟨rfl, fp3, h1, h2, ((Off.refl fp w).alloc _).trans h3 (fun k hk => .inl hk), fun k hk => (h4 k hk).imp id (fun h => by simp at h; omega), h5⟩
  · have hxb : (x != 0) = true := by simpa using hx
    rw [if_neg hx]
    go_enter Try.func7, Try.ntmps7
    go_wp2_with (first | (go_at_call 27; refine HS.out.mono ?_; rintro e w' ⟨rfl, hw⟩; have hw := hw.symm; subst hw) | fail)
    refine (HM.out _ ((Below.refl _ _).alloc (Nat.le_refl _) _) (heap_alloc_new _ _)).mono ?_
    rintro e w3 ⟨rfl, fp3, h1, h2, h3, h4, h5⟩
    go_wp2
    go_ret2
    exact ⟨rfl, fp3, h1, h2, ((Off.refl fp w).alloc _).trans h3 (fun k hk => .inl hk), fun k hk => (h4 k hk).imp id (fun h => by simp at h; omega), h5⟩
end
end Go.Proofs.Ytifoafiidplpiaa
