/- A part of it: DFind. -/
import Derived.Test.YteeembildppgmaaGreatM31
namespace Go.Proofs.YteeembildppgmaaGreat.Rd
open Go.RowKit
set_option linter.unusedVariables false
set_option linter.unusedSimpArgs false
def cmpI (a b : Int) : Int := if a < b then -1 else if b < a then 1 else 0
set_option maxHeartbeats 400000 in
theorem isNaN_any (a : Int) (w : World) : Calls Tryz.prog 148 #[.int .i64 a] w fun e w' => e = .returned (.bool false) ∧ w' = w := by
 have h : (a != a) = false := by simp
 go_enter Tryz.func148, Tryz.ntmps148
 go_wp2
 go_ret
 exact ⟨rfl, rfl⟩
set_option maxHeartbeats 1000000 in
theorem compare_any (a b : Int) (w : World) : Calls Tryz.prog 119 #[.int .i64 a, .int .i64 b] w fun e w' => e = .returned (.int .i64 (cmpI a b)) ∧ w' = w := by
 have HN := hide (fun x => isNaN_any x w)
 unfold cmpI
 by_cases h1 : a < b
 · rw [if_pos h1]
   go_enter Tryz.func119, Tryz.ntmps119
   go_wp2_with (go_at_call 148; refine (HN.out _).mono ?_; rintro e w' ⟨rfl, hw⟩; have hw := hw.symm; subst hw)
   go_ret
   exact ⟨rfl, rfl⟩
 · rw [if_neg h1]
   by_cases h2 : b < a
   · rw [if_pos h2]
     go_enter Tryz.func119, Tryz.ntmps119
     go_wp2_with (go_at_call 148; refine (HN.out _).mono ?_; rintro e w' ⟨rfl, hw⟩; have hw := hw.symm; subst hw)
     go_ret
     exact ⟨rfl, rfl⟩
   · rw [if_neg h2]
     go_enter Tryz.func119, Tryz.ntmps119
     go_wp2_with (go_at_call 148; refine (HN.out _).mono ?_; rintro e w' ⟨rfl, hw⟩; have hw := hw.symm; subst hw)
     go_ret
     exact ⟨rfl, rfl⟩
set_option maxHeartbeats 1000000 in
set_option maxRecDepth 100000 in
theorem cmpL_any (x : Ln) (t : Int) (w : World) : Calls Tryz.prog 199 #[.agg (lnCells x).toArray, .int .i64 t] w fun e w' => e = .returned (.int .i64 (cmpI x.lsn t)) ∧ Below w.heap.size w w' := by
 have HC := hide (fun W => compare_any x.lsn t W)
 generalize cmpI x.lsn t = r at *
 have hB : Below w.heap.size w (w.alloc (.cells (lnCells x).toArray 88)) := (Below.refl _ _).alloc (Nat.le_refl _) _
 have HB := hide hB
 unfold lnCells recCells at *
 clear hB
 go_enter Tryz.func199, Tryz.ntmps199
 go_wp2_with (go_at_call 119; refine (HC.out _).mono ?_; rintro e w' ⟨rfl, hw⟩; have hw := hw.symm; subst hw)
 go_ret
 exact ⟨rfl, HB.out⟩
def Rises (L : List Ln) : Prop := ∀ (i j : Nat) (x y : Ln), L[i]? = some x → L[j]? = some y → i < j → x.lsn < y.lsn
set_option maxHeartbeats 2000000 in
set_option maxRecDepth 100000 in
theorem search_any (w : World) (la : Option Addr) (cap : Nat) (L : List Ln) (t : Int) (hL : LinesAt w la L) (hR : Rises L) :
 Calls Tryz.prog 198 #[.slice la L.length cap, .int .i64 t, .func (.func 199) #[] #[]] w fun e w' => ∃ (pos : Nat) (fnd : Bool), e = .returned (.tuple #[.int .i64 (pos : Int), .bool fnd]) ∧ pos ≤ L.length ∧ (∀ (i : Nat) (x : Ln), L[i]? = some x → (x.lsn < t ↔ i < pos)) ∧ (fnd = true ↔ ∃ x, L[pos]? = some x ∧ x.lsn = t) ∧ Below w.heap.size w w' := by
 have HL := hide hL
 have HR := hide hR
 obtain ⟨n, hn⟩ : ∃ n, L.length = n := ⟨_, rfl⟩
 have hn1 : n ≤ 1000000 := by rw [← hn]; exact hL.1
 have HN := hide hn
 rw [hn]
 clear hL hR hn
 go_enter Tryz.func198, Tryz.ntmps198
 go_wp2
 go_loopw [9, 10] (fun a b wr => ∃ i j : Nat, a = .int .i64 i ∧ b = .int .i64 j ∧ i ≤ j ∧ j ≤ n ∧ (∀ (k : Nat) (x : Ln), L[k]? = some x → k < i → x.lsn < t) ∧ (∀ (k : Nat) (x : Ln), L[k]? = some x → j ≤ k → t ≤ x.lsn) ∧ Below w.heap.size w wr) (fun a b _ => (intOf b).toNat - (intOf a).toNat)
 case atStart => exact ⟨0, n, rfl, rfl, by omega, by omega, fun k x hx hk => by omega, fun k x hx hk => by have := (List.getElem?_eq_some_iff.1 hx).1; rw [HN.out] at this; omega, Below.refl _ _⟩
 case round =>
  obtain ⟨i, j, rfl, rfl, hij, hjn, hlo, hhi, hb⟩ := hrel
  have HLO := hide hlo
  have HHI := hide hhi
  have HB := hide hb
  clear hlo hhi hb
  by_cases hlt : i < j
  · obtain ⟨m, hm⟩ : ∃ m : Nat, ((i : Int) + (j : Int)) / 2 = (m : Int) := ⟨(i + j) / 2, by omega⟩
    have hmi : i ≤ m := by omega
    have hmj : m < j := by omega
    have hmn : m < n := by omega
    obtain ⟨x, hx⟩ : ∃ x, L[m]? = some x := ⟨_, List.getElem?_eq_getElem (by rw [HN.out]; exact hmn)⟩
    obtain ⟨hok, b, o, hab, hbl, hrg⟩ := HL.out.2 m x hx
    subst hab
    have HRG : Hid (wr.rangeAt b (o + m * 12) (lnCells x)) := fun k v hv => (HB.out.cell (p := ⟨b, o + m * 12 + k, none⟩) hbl).trans (hrg k v hv)
    have HC := hide (cmpL_any x t wr)
    have HX := hide hx
    clear hrg hx
    go_upto_region 5 with fail
    first | rw [hm] | skip
    clear hm
    by_cases hc : x.lsn < t
    · have hci : cmpI x.lsn t = -1 := by unfold cmpI; rw [if_pos hc]
      rw [hci] at HC
      clear hci
      go_wp2_with (first
       | (refine wpList_load_mid (by rfl) 88 _ (by rfl) b (o + m * 12) (by rfl) _ _ HRG.out Tryz.underlying88 rfl Tryz.size34n ?_)
       | (go_at_call 199; refine HC.out.mono ?_; rintro e w2 ⟨rfl, hb2⟩; have HB2 := hide hb2; clear hb2))
      go_roundw
      case rel =>
       refine ⟨m + 1, j, by go_num, rfl, by omega, hjn, fun k y hy hk => ?_, HHI.out, HB.out.trans (HB2.out.mono HB.out.size)⟩
       by_cases e : k = m
       · subst e; rw [HX.out] at hy; cases hy; exact hc
       · have := HR.out k m y x hy HX.out (by omega); omega
      case measure => simp [intOf]; omega
    · have hci : ¬ cmpI x.lsn t < 0 := by unfold cmpI; rw [if_neg hc]; split <;> omega
      obtain ⟨cv, hcv⟩ : ∃ cv, cmpI x.lsn t = cv := ⟨_, rfl⟩
      rw [hcv] at HC hci
      clear hcv
      go_wp2_with (first
       | (refine wpList_load_mid (by rfl) 88 _ (by rfl) b (o + m * 12) (by rfl) _ _ HRG.out Tryz.underlying88 rfl Tryz.size34n ?_)
       | (go_at_call 199; refine HC.out.mono ?_; rintro e w2 ⟨rfl, hb2⟩; have HB2 := hide hb2; clear hb2))
      go_roundw
      case rel =>
       refine ⟨i, m, rfl, rfl, by omega, by omega, HLO.out, fun k y hy hk => ?_, HB.out.trans (HB2.out.mono HB.out.size)⟩
       by_cases e : k = m
       · subst e; rw [HX.out] at hy; cases hy; omega
       · have := HR.out m k x y HX.out hy (by omega); omega
      case measure => simp [intOf]; omega
  · have hij' : i = j := by omega
    subst hij'
    have HCUT : Hid (∀ (k : Nat) (x : Ln), L[k]? = some x → (x.lsn < t ↔ k < i)) := fun k x hx => by
     constructor
     · intro h
       by_cases e : k < i
       · exact e
       · have := HHI.out k x hx (by omega); omega
     · exact HLO.out k x hx
    clear HLO HHI
    by_cases hin : i < n
    · obtain ⟨x, hx⟩ : ∃ x, L[i]? = some x := ⟨_, List.getElem?_eq_getElem (by rw [HN.out]; exact hin)⟩
      obtain ⟨hok, b, o, hab, hbl, hrg⟩ := HL.out.2 i x hx
      subst hab
      have HRG : Hid (wr.rangeAt b (o + i * 12) (lnCells x)) := fun k v hv => (HB.out.cell (p := ⟨b, o + i * 12 + k, none⟩) hbl).trans (hrg k v hv)
      have e0 : wr.cell? ⟨b, o + i * 12, none⟩ = some (.int .i64 x.lsn) := HRG.out 0 _ rfl
      have e1 : wr.cell? ⟨b, o + i * 12 + 1, none⟩ = some (.int .i64 x.kind) := HRG.out 1 _ rfl
      have e2 : wr.cell? ⟨b, o + i * 12 + 2, none⟩ = some (.int .i64 x.txn) := HRG.out 2 _ rfl
      have e3 : wr.cell? ⟨b, o + i * 12 + 3, none⟩ = some (.int .i64 x.prev) := HRG.out 3 _ rfl
      have e4 : wr.cell? ⟨b, o + i * 12 + 4, none⟩ = some (.int .i64 x.next) := HRG.out 4 _ rfl
      have e5 : wr.cell? ⟨b, o + i * 12 + 5, none⟩ = some (.int .i64 x.page) := HRG.out 5 _ rfl
      have e6 : wr.cell? ⟨b, o + i * 12 + 6, none⟩ = some (.int .i64 x.off) := HRG.out 6 _ rfl
      have e7 : wr.cell? ⟨b, o + i * 12 + 7, none⟩ = some (.slice x.sb.a x.sb.n x.sb.c) := HRG.out 7 _ rfl
      have e8 : wr.cell? ⟨b, o + i * 12 + 8, none⟩ = some (.slice x.sa.a x.sa.n x.sa.c) := HRG.out 8 _ rfl
      have e9 : wr.cell? ⟨b, o + i * 12 + 9, none⟩ = some (.slice x.st.a x.st.n x.st.c) := HRG.out 9 _ rfl
      have e10 : wr.cell? ⟨b, o + i * 12 + 10, none⟩ = some (.slice x.sd.a x.sd.n x.sd.c) := HRG.out 10 _ rfl
      have e11 : wr.cell? ⟨b, o + i * 12 + 11, none⟩ = some (.int .i64 x.count) := HRG.out 11 _ rfl
      have HC := hide (cmpL_any x t wr)
      have HX := hide hx
      clear hrg hx
      obtain ⟨cv, hcv⟩ : ∃ cv, cmpI x.lsn t = cv := ⟨_, rfl⟩
      have HCV : Hid (cv = 0 ↔ x.lsn = t) := by
       show _ ↔ _
       rw [← hcv]
       unfold cmpI
       split
       · constructor
         · intro h; omega
         · intro h; omega
       · split
         · constructor
           · intro h; omega
           · intro h; omega
         · constructor
           · intro _; omega
           · intro _; rfl
      rw [hcv] at HC
      clear hcv
      unfold lnCells recCells at HC
      go_wp2_with (go_at_call 199; refine HC.out.mono ?_; rintro e w2 ⟨rfl, hb2⟩; have HB2 := hide hb2; clear hb2)
      go_ret2
      refine ⟨i, (cv == 0), rfl, by omega, HCUT.out, ?_, HB.out.trans (HB2.out.mono HB.out.size)⟩
      constructor
      · intro h; exact ⟨x, HX.out, HCV.out.1 (by simpa using h)⟩
      · rintro ⟨y, hy, hyt⟩
        rw [HX.out] at hy
        cases hy
        simpa using HCV.out.2 hyt
    · go_wp2
      go_ret2
      refine ⟨i, false, rfl, by omega, HCUT.out, ?_, HB.out⟩
      constructor
      · intro h; cases h
      · rintro ⟨y, hy, _⟩
        have := (List.getElem?_eq_some_iff.1 hy).1
        rw [HN.out] at this
        omega
set_option maxHeartbeats 1000000 in
set_option maxRecDepth 100000 in
theorem find_any (w : World) (R : Nat) (la : Option Addr) (cap : Nat) (L : List Ln) (t : Int) (h0 : w.cell? ⟨R, 0, none⟩ = some (.slice la L.length cap)) (hL : LinesAt w la L) (hR : Rises L) :
 Calls Tryz.prog 181 #[.pointer (some ⟨R, 0, none⟩), .int .i64 t] w fun e w' => ∃ (pos : Nat) (fnd : Bool), e = .returned (.tuple #[.int .i64 (pos : Int), .bool fnd]) ∧ pos ≤ L.length ∧ (∀ (i : Nat) (x : Ln), L[i]? = some x → (x.lsn < t ↔ i < pos)) ∧ (fnd = true ↔ ∃ x, L[pos]? = some x ∧ x.lsn = t) ∧ Below w.heap.size w w' := by
 have HS := hide (search_any w la cap L t hL hR)
 clear hL hR
 obtain ⟨n, hn⟩ : ∃ n, L.length = n := ⟨_, rfl⟩
 rw [hn] at h0 HS
 have HN := hide hn
 clear hn
 go_enter Tryz.func181, Tryz.ntmps181
 go_wp2_with (go_at_call 198; refine HS.out.mono ?_; rintro e w2 ⟨pos, fnd, rfl, h1, h2, h3, h4⟩; have H2 := hide (And.intro h1 (And.intro h2 (And.intro h3 h4))); clear h1 h2 h3 h4)
 go_ret2
 exact ⟨pos, fnd, rfl, by rw [HN.out]; exact H2.out.1, H2.out.2.1, H2.out.2.2.1, H2.out.2.2.2⟩
end Go.Proofs.YteeembildppgmaaGreat.Rd
