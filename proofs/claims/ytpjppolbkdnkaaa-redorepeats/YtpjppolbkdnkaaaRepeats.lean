/- RedoRepeats: its walk. -/
import Derived.Test.YtpjppolbkdnkaaaRefW
import Derived.Test.YtpjppolbkdnkaaaRepP
import Derived.Test.YtpjppolbkdnkaaaAwake
namespace Go.Proofs.Ytpjppolbkdnkaaa
open Go.RowKit
set_option linter.unusedVariables false
set_option linter.unusedSimpArgs false

set_option maxHeartbeats 8000000 in
set_option maxRecDepth 100000 in
theorem repeats_walk (w : World) (la : Option Addr) (lc : Nat) (L : List Ln) (hL : LinesIn w la L) (hI : ∀ x ∈ L, ListsIn w x) (hlc : L.length ≤ lc) (hlc2 : lc ≤ 9223372036854775807) (hnil : la = none → L = [] ∧ lc = 0)
    (da : Option Addr) (dc : Nat) (D : List (Int × Int)) (hD : DirtsIn w da D) (hD64 : ∀ q ∈ D, In64 q.1 ∧ In64 q.2) (hDl : D.length ≤ 9223372036854775807) (pa : Option Addr) (pc : Nat) (pages : List Int) (hP : IntsIn w pa pages) (hPl : pages.length ≤ 9223372036854775807) :
    Calls Try.prog 5 #[.slice la L.length lc, .slice da D.length dc, .slice pa pages.length pc] w fun e w' => e = .returned (.bool true) ∧ Below w.heap.size w w' := by
  have HFN := hide (fun W (hb : Below w.heap.size w W) => fine_any W la lc L (hL.belowI hb) (by omega) (fun x hx => ⟨by
    obtain ⟨D', h1, h2, h3⟩ := (hI x hx).dirty
    exact ⟨D', h1, h2, fun i q hq => by
      obtain ⟨b, o, k1, k2, k3⟩ := h3 i q hq
      exact ⟨b, o, k1, Nat.lt_of_lt_of_le k2 hb.size, fun j v hv => (hb.cell (p := ⟨b, o + i * 2 + j, none⟩) k2).trans (k3 j v hv)⟩⟩, by
    obtain ⟨T, h1, h2, h3⟩ := (hI x hx).txns
    exact ⟨T, h1, h2, h3.below hb⟩⟩))
  have HLI := hide hL
  have HDI := hide hD
  have HD64 := hide hD64
  have HPI := hide hP
  have HNIL := hide (And.intro hlc hnil)
  obtain ⟨n, hn⟩ : ∃ n, L.length = n := ⟨_, rfl⟩
  obtain ⟨dn, hdn⟩ : ∃ dn, D.length = dn := ⟨_, rfl⟩
  obtain ⟨pn, hpn⟩ : ∃ pn, pages.length = pn := ⟨_, rfl⟩
  have HN := hide hn
  have HDN := hide hdn
  have HPN := hide hpn
  have hn1 : n ≤ 9223372036854775807 := by omega
  rw [hn] at HFN ⊢
  rw [hdn] at hDl ⊢
  rw [hpn] at hPl ⊢
  clear hn hdn hpn hL hI hD hD64 hP hlc hnil hlc2
  go_enter Try.func5, Try.ntmps5
  go_wp2
  go_loopw [7] (fun i wx => ∃ k : Nat, 1 ≤ k ∧ (k ≤ dn ∨ k = 1) ∧ i = .int .i64 k ∧ DRis D k ∧ Below w.heap.size w wx) (fun i _ => dn - (iv i).toNat)
  case atStart => exact ⟨1, by omega, .inr rfl, rfl, fun i x y h => by omega, Below.refl _ _⟩
  case round =>
    obtain ⟨k, hk1, hkd, rfl, hR, hb⟩ := hrel
    have HB := hide hb
    have HRK := hide hR
    by_cases hlt : k < dn
    · obtain ⟨p, rfl⟩ : ∃ p, k = p + 1 := ⟨k - 1, by omega⟩
      obtain ⟨x, hx⟩ : ∃ x, D[p + 1]? = some x := ⟨_, List.getElem?_eq_getElem (by rw [HDN.out]; exact hlt)⟩
      obtain ⟨y, hy⟩ : ∃ y, D[p]? = some y := ⟨_, List.getElem?_eq_getElem (by rw [HDN.out]; omega)⟩
      obtain ⟨b, o, hab, hbl, hrg⟩ := HDI.out (p + 1) x hx
      obtain ⟨b2, o2, hab2, hbl2, hrg2⟩ := HDI.out p y hy
      have hab3 := hab.symm.trans hab2
      injection hab3 with hab3
      injection hab3 with q1 q2
      subst q1; subst q2
      have f0 : wr.cell? ⟨b, o + (p + 1) * 2, none⟩ = some (.int .i64 x.1) := (hb.cell (p := ⟨b, o + (p + 1) * 2, none⟩) hbl).trans (hrg 0 _ rfl)
      have f1 : wr.cell? ⟨b, o + p * 2, none⟩ = some (.int .i64 y.1) := (hb.cell (p := ⟨b, o + p * 2, none⟩) hbl2).trans (hrg2 0 _ rfl)
      have HXY := hide (And.intro hx hy)
      have hpi : ((p + 1 : Nat) : Int) - 1 = (p : Int) := by omega
      clear hrg hrg2 hx hy hb hR hab2
      rw [hab]
      by_cases hle : x.1 ≤ y.1
      · have hd2 : decide (x.1 ≤ y.1) = true := decide_eq_true hle
        go_wp2
        go_quiet (fail)
        have HBQ := hide (HB.out.trans (below_drewN _ _ nq))
        go_wp2_with (go_at_call 10; refine (awake_any _).mono ?_; rintro e w2 ⟨rfl, hb2⟩; have HB2 := hide hb2; clear hb2)
        go_ret
        exact ⟨rfl, HBQ.out.trans (HB2.out.mono HBQ.out.size)⟩
      · have hd2 : decide (x.1 ≤ y.1) = false := decide_eq_false hle
        go_wp2
        go_quiet (fail)
        go_wp2
        go_roundw
        case rel =>
          refine ⟨p + 2, by omega, .inl (by omega), by go_num, fun i z u hi hz hu => ?_, HB.out.trans (below_drewN _ _ _)⟩
          by_cases e : i = p
          · subst e
            rw [HXY.out.1] at hu; cases hu
            rw [HXY.out.2] at hz; cases hz
            omega
          · exact HRK.out i z u (by omega) hz hu
        case measure => simp [iv]; omega
    · have HDR : Hid (DRis D D.length) := fun i z u hi hz hu => HRK.out i z u (by rw [HDN.out] at hi; omega) hz hu
      have HF := hide (HFN.out wr hb)
      clear hb hR
      by_cases hd30 : dn > 30
      · have hdd : decide ((dn : Int) > 30) = true := decide_eq_true (by omega)
        go_wp2_with (first
          | (go_at_call 11; refine HF.out.mono ?_; rintro e w2 ⟨bb, rfl, hfb, hb2⟩; have HB2 := hide (HB.out.trans (hb2.mono HB.out.size)); clear hfb hb2; cases bb)
          | (go_at_call 10; refine (awake_any _).mono ?_; rintro e w3 ⟨rfl, hb3⟩; have HB3 := hide hb3; clear hb3))
        all_goals
          go_ret
          exact ⟨rfl, HB2.out.trans (HB3.out.mono HB2.out.size)⟩
      · have hdd : decide ((dn : Int) > 30) = false := decide_eq_false (by omega)
        by_cases hp30 : pn > 30
        · have hpd : decide ((pn : Int) > 30) = true := decide_eq_true (by omega)
          go_wp2_with (first
            | (go_at_call 11; refine HF.out.mono ?_; rintro e w2 ⟨bb, rfl, hfb, hb2⟩; have HB2 := hide (HB.out.trans (hb2.mono HB.out.size)); clear hfb hb2; cases bb)
            | (go_at_call 10; refine (awake_any _).mono ?_; rintro e w3 ⟨rfl, hb3⟩; have HB3 := hide hb3; clear hb3))
          all_goals
            go_ret
            exact ⟨rfl, HB2.out.trans (HB3.out.mono HB2.out.size)⟩
        · have hpd : decide ((pn : Int) > 30) = false := decide_eq_false (by omega)
          go_wp2_with (first
            | (go_at_call 11; refine HF.out.mono ?_; rintro e w2 ⟨bb, rfl, hfb, hb2⟩; have HB2 := hide (HB.out.trans (hb2.mono HB.out.size)); have HFB := hide hfb; clear hfb hb2; cases bb)
            | (go_at_call 10; refine (awake_any _).mono ?_; rintro e w3 ⟨rfl, hb3⟩; have HB3 := hide hb3; clear hb3))
          · go_ret
            exact ⟨rfl, HB2.out.trans (HB3.out.mono HB2.out.size)⟩
          · obtain ⟨hris, hl100⟩ := HFB.out (by simp)
            have hris' : RisTo L L.length := by rw [HN.out]; exact hris
            have HRS := hide hris'.rises
            have hn100 : n ≤ 100 := hl100
            clear hris'
            clear hris hl100 HFB HF hdd hpd
            go_loopw [8, 9] (fun v i wx => ∃ k : Nat, k ≤ pn ∧ i = .int .i64 k ∧ wx.ownsRow w.heap.size 52 2 v k (pgRow (pagesP pages k)) ∧ (k = 0 → v = .slice none 0 0) ∧ Below w.heap.size w wx) (fun _ i _ => pn - (iv i).toNat)
            case atStart => exact ⟨0, by omega, rfl, ⟨rfl, .inl ⟨rfl, rfl⟩⟩, fun _ => rfl, HB2.out⟩
            case round =>
              obtain ⟨k, hk, rfl, hrow, hz, hb⟩ := hrel
              obtain ⟨a8, c8, hv8⟩ := own_len hrow
              subst hv8
              by_cases hlt2 : k < pn
              · obtain ⟨v, hv⟩ : ∃ v, pages[k]? = some v := ⟨_, List.getElem?_eq_getElem (by rw [HPN.out]; exact hlt2)⟩
                obtain ⟨hv64, b, o, hab, hbl, hcell⟩ := HPI.out k v hv
                have f0 : wr.cell? ⟨b, o + k, none⟩ = some (.int .i64 v) := (hb.cell (p := ⟨b, o + k, none⟩) hbl).trans hcell
                have HOWN : Hid ((wr.alloc (.cells (pgCells ((k : Int), v)).toArray 52)).ownsRow 0 52 2 (.slice a8 k c8) k (pgRow (pagesP pages k))) := owns_of_block (owns_zero hrow) (fun q hq => Below.heap_alloc wr _ q (hrow.lt q hq).2)
                have HSRC : Hid (∀ j u, (pgCells ((k : Int), v))[j]? = some u → (wr.alloc (.cells (pgCells ((k : Int), v)).toArray 52)).cell? ((⟨wr.heap.size, 0, none⟩ : Addr).add j) = some u) := src_of_block (heap_alloc_new wr _)
                have HPS := hide (pagesP_succ pages k v hv)
                have HRB := hide (And.intro hrow hb)
                clear hcell hv hrow hz hb
                rw [hab]
                go_wp2_with (refine wpList_append_owned (by rfl) _ _ 50 (by rfl) 52 (.agg (pgCells (0, 0)).toArray) 2 16 Try.underlying50 Try.info52 rfl (by omega) (.slice a8 k c8) k (pgRow (pagesP pages k)) (by rfl) HOWN.out ⟨wr.heap.size, 0, none⟩ 1 1 (pgCells ((k : Int), v)) (by rfl) (by rfl) HSRC.out (by intro u hu; simp [pgCells] at hu; rcases hu with rfl | rfl <;> rfl) (by simp only [maxLen]; omega) (by omega) (fun v4 w4 r1 r2 r3 => ?_)
                             obtain ⟨a4, m4, c4, hv4⟩ := own_form r1
                             subst hv4
                             have HR4 := hide (And.intro r1 (And.intro r2 r3))
                             clear r1 r2 r3)
                go_roundw
                case rel =>
                  obtain ⟨r1, r2, r3⟩ := HR4.out
                  obtain ⟨hrow, hb⟩ := HRB.out
                  have hs := hb.size
                  refine ⟨k + 1, by omega, by go_num, ?_, fun h => by omega, hb.trans ((((Below.refl w.heap.size wr).alloc hs _).grown r2 (by simp; omega) (fun q hq => (hrow.lt q hq).1)))⟩
                  have e2 : pgRow (pagesP pages (k + 1)) = pgRow (pagesP pages k) ++ pgCells ((k : Int), v) := by rw [HPS.out]; simp [pgRow]
                  rw [e2]
                  refine owns_base r1 (fun q hq => ?_)
                  rcases r3 q hq with h | h
                  · exact (hrow.lt q h).1
                  · simp at h; omega
                case measure => simp [iv]; omega
              · obtain rfl : k = pn := by omega
                have HROW8 := hide (And.intro hrow (And.intro hz hb))
                clear hrow hz hb
                obtain ⟨A, hA⟩ : ∃ A, askLsns wr.heap.size pa pc pages (fun v hv => by
                  obtain ⟨i, hi, he⟩ := List.getElem_of_mem hv
                  exact (HPI.out i v (by rw [← he]; exact List.getElem?_eq_getElem hi)).1) = A := ⟨_, rfl⟩
                have HAF : Hid (A.f = pageLsn pages) := by show _ = _; rw [← hA]; rfl
                have HREF := hide (redo_ref A pages HAF.out D HDR.out L)
                rw [HPN.out] at HREF
                obtain ⟨R, hR⟩ : ∃ R, redoOf A D L = R := ⟨_, rfl⟩
                rw [hR] at HREF
                have HRE : Hid (∀ x3, x3 = wr.alloc (.cells #[.slice pa k pc] 49) → Calls Try.prog 16 #[.slice la n lc, .slice da dn dc, .func (.func 36) #[] #[.pointer (some ⟨wr.heap.size, 0, none⟩)]] x3 fun e w' => ∃ v, e = .returned v ∧ w'.ownsRow 0 3 1 v R.length (intCells R) ∧ Below x3.heap.size x3 w') := fun x3 hx3 => by
                  obtain ⟨hrow, hz, hb⟩ := HROW8.out
                  have hB3 : Below wr.heap.size wr x3 := by rw [hx3]; exact (Below.refl _ _).alloc (Nat.le_refl _) _
                  have hBw : Below w.heap.size w x3 := hb.trans (hB3.mono hb.size)
                  have := redo_any A x3 ⟨la, n, lc⟩ L da D dc (by
                      rw [← hA]
                      exact ⟨by rw [hx3, HPN.out]; exact heap_alloc_new _ _, HPI.out.at (by rw [HPN.out]; omega) hBw⟩)
                    ⟨HN.out.symm, HNIL.out.1, HNIL.out.2, fun a ha hne => by
                      obtain ⟨q, hq⟩ : ∃ q, L[0]? = some q := ⟨_, List.getElem?_eq_getElem (List.length_pos_iff.2 hne)⟩
                      obtain ⟨_, b, o, h1, _⟩ := HLI.out 0 q hq
                      have h1 : some a = some ⟨b, o, none⟩ := ha.symm.trans h1
                      exact ⟨b, o, by injection h1⟩, by rw [HN.out]; omega, HLI.out.belowI hBw⟩ HRS.out (HDI.out.at HD64.out (by rw [HDN.out]; omega) hBw) (by rw [HN.out]; omega) (by rw [HDN.out]; omega)
                  rw [hR, HDN.out, ← hA] at this
                  exact this
                clear hR hA HAF
                go_upto_region 15 with (first
                  | (go_at_call 17; refine (lsns_any wr pa k pc).mono ?_; rintro e x3 ⟨rfl, hx3⟩
                     have HRE3 := hide (HRE.out x3 hx3)
                     have HB3 : Hid (Below wr.heap.size wr x3) := by show Below _ _ _; rw [hx3]; exact (Below.refl _ _).alloc (Nat.le_refl _) _
                     clear hx3 HRE)
                  | (go_at_call 16; refine HRE3.out.mono ?_; rintro e x4 ⟨v10, rfl, hr10, hb4⟩
                     obtain ⟨a10, c10, hv10⟩ := own_len hr10
                     subst hv10
                     have HR10 := hide hr10
                     have HB4 : Hid (Below wr.heap.size wr x4) := HB3.out.trans (hb4.mono HB3.out.size)
                     have HBW4 : Hid (Below w.heap.size w x4) := HROW8.out.2.2.trans (HB4.out.mono HROW8.out.2.2.size)
                     have HTO := hide (to_any x4 la lc L (HLI.out.belowI HBW4.out) (by rw [HN.out]; omega))
                     rw [HN.out] at HTO
                     clear hr10 hb4)
                  | (go_at_call 13; refine HTO.out.mono ?_; rintro e x5 ⟨v13, rfl, hr13, hb5⟩
                     obtain ⟨a13, c13, hv13⟩ := own_len hr13
                     subst hv13
                     have HB5 := hide hb5
                     have hbw5 : Below w.heap.size w x5 := HBW4.out.trans (hb5.mono HBW4.out.size)
                     have hbr5 : Below wr.heap.size wr x5 := HB4.out.trans (hb5.mono HB4.out.size)
                     have hrow5 : x5.ownsRow 0 52 2 (.slice a8 k c8) (pagesP pages k).length (pgRow (pagesP pages k)) := by
                       rw [pagesP_len]
                       exact owns_of_block (owns_zero HROW8.out.1) (fun q hq => hbr5.block q (HROW8.out.1.lt q hq).2)
                     have HRF := hide (refRedo_any x5 a13 c13 L (lines_of_row (base := x4.heap.size) (by rw [HN.out]; exact hr13) (fun x hx => by
                         obtain ⟨i, hi, he⟩ := List.getElem_of_mem hx
                         exact (HLI.out i x (by rw [← he]; exact List.getElem?_eq_getElem hi)).1) (by rw [HN.out]; exact hn100)) da dc D (HDI.out.at HD64.out (by rw [HDN.out]; omega) hbw5) (.slice a8 k c8) (pagesP pages k) hrow5 (fun e => HROW8.out.2.1 (by have := congrArg List.length e; rw [pagesP_len] at this; exact this)) (by rw [HN.out]; omega) (by rw [HDN.out]; omega) (by rw [pagesP_len]; omega))
                     rw [HREF.out, HN.out, HDN.out] at HRF
                     clear hr13 hb5 hbw5 hbr5 hrow5)
                  | (go_at_call 18; refine HRF.out.mono ?_; rintro e x6 ⟨v18, rfl, hr18, hb6⟩
                     obtain ⟨a11, c11, hv18⟩ := own_len hr18
                     subst hv18
                     have HR11 := hide hr18
                     have HB46 : Hid (Below x4.heap.size x4 x6) := HB5.out.trans (hb6.mono HB5.out.size)
                     clear hr18 hb6))
                have HR6 : Hid (x6.ownsRow 0 3 1 (.slice a10 R.length c10) R.length (intCells R)) := owns_of_block HR10.out (fun q hq => HB46.out.block q (HR10.out.lt q hq).2)
                have HBW6 : Hid (Below w.heap.size w x6) := HBW4.out.trans (HB46.out.mono HBW4.out.size)
                obtain ⟨m, hm⟩ : ∃ m, R.length = m := ⟨_, rfl⟩
                have HM := hide hm
                have hm100 : m ≤ 100 := by
                  have := (refN_len D L (pagesP pages k, [])).2
                  rw [HREF.out, hm, HN.out] at this
                  simp at this
                  omega
                rw [hm]
                clear hm HR10 HB46 HREF HRE3 HTO HRF
                go_wp2
                go_loopw [12] (fun i wx => ∃ j : Nat, j ≤ m ∧ i = .int .i64 j ∧ Below x6.heap.size x6 wx) (fun i _ => m - (iv i).toNat)
                case atStart => exact ⟨0, by omega, rfl, Below.refl _ _⟩
                case round =>
                  obtain ⟨j, hj, rfl, hbj⟩ := hrel
                  have HBJ := hide hbj
                  by_cases hjm : j < m
                  · obtain ⟨r, hr⟩ : ∃ r, R[j]? = some r := ⟨_, List.getElem?_eq_getElem (by rw [HM.out]; exact hjm)⟩
                    obtain ⟨g10, c10', _, hv10, _, hg10, _⟩ := own_some HR6.out (by rw [HM.out]; omega)
                    obtain ⟨g11, c11', _, hv11, _, hg11, _⟩ := own_some HR11.out (by rw [HM.out]; omega)
                    injection hv10 with q1 q1' q1''
                    injection hv11 with q2 q2' q2''
                    subst q1; subst q2
                    clear q1' q1'' q2' q2''
                    have k10 := int_cells HR6.out j r hr
                    have k11 := int_cells HR11.out j r hr
                    have f10 := (hbj.cell (p := ⟨g10, j, none⟩) (World.block_lt_of_cell? _ _ k10)).trans k10
                    have f11 := (hbj.cell (p := ⟨g11, j, none⟩) (World.block_lt_of_cell? _ _ k11)).trans k11
                    clear hbj hr k10 k11 hg10 hg11
                    go_wp2
                    go_quiet (fail)
                    go_wp2
                    go_roundw
                    case rel => exact ⟨j + 1, by omega, by go_num, HBJ.out.trans (below_drewN _ _ _)⟩
                    case measure => simp [iv]; omega
                  · obtain rfl : j = m := by omega
                    clear hbj
                    go_wp2_with (go_at_call 10; refine (awake_any _).mono ?_; rintro e w7 ⟨rfl, hb7⟩; have HB7 := hide hb7; clear hb7)
                    go_ret
                    have hbw : Below w.heap.size w wr := HBW6.out.trans (HBJ.out.mono HBW6.out.size)
                    exact ⟨rfl, hbw.trans (HB7.out.mono hbw.size)⟩
end Go.Proofs.Ytpjppolbkdnkaaa
