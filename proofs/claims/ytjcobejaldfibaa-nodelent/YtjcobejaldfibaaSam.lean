/- Same, at nodes that are alike. -/
import Derived.Test.YtjcobejaldfibaaTo
namespace Go.Proofs.Ytjcobejaldfibaa
open Go.RowKit
set_option linter.unusedVariables false
set_option linter.unusedSimpArgs false

theorem strOf_toList (t : List UInt8) : (strOf t).toList = t := by
  unfold strOf
  rw [ByteArray.toList_eq]
set_option maxHeartbeats 1000000 in
theorem same_any {w : World} {N : Nd} {uk uv vi uk' uv' vi' : Value} (h : RdAt w N uk uv vi) (h' : RdAt w N uk' uv' vi') (hf : Fits N) :
    Calls Try.prog 16 #[.agg #[.bool N.leaf, uk, uv, vi, .int .i64 N.next], .agg #[.bool N.leaf, uk', uv', vi', .int .i64 N.next]] w fun e w' => e = .returned (.bool true) ∧ Below w.heap.size w w' := by
  obtain ⟨ak, ck, rfl, _, _⟩ := h.keys.len
  obtain ⟨av, cv, rfl, _, _⟩ := h.vals.len
  obtain ⟨ai, ci, rfl, _, _⟩ := h.kids.len
  obtain ⟨bk, dk, rfl, _, _⟩ := h'.keys.len
  obtain ⟨bv, dv, rfl, _, _⟩ := h'.vals.len
  obtain ⟨bi, di, rfl, _, _⟩ := h'.kids.len
  have hb1 := (Below.refl w.heap.size w).alloc (Nat.le_refl _) (.cells #[.bool N.leaf, .slice ak N.keys.length ck, .slice av N.vals.length cv, .slice ai N.kids.length ci, .int .i64 N.next] 43)
  have HB : Hid (Below w.heap.size w ((w.alloc (.cells #[.bool N.leaf, .slice ak N.keys.length ck, .slice av N.vals.length cv, .slice ai N.kids.length ci, .int .i64 N.next] 43)).alloc (.cells #[.bool N.leaf, .slice bk N.keys.length dk, .slice bv N.vals.length dv, .slice bi N.kids.length di, .int .i64 N.next] 43))) := hb1.alloc hb1.size _
  have HX := hide ((Box.new (t := 43) w (.bool N.leaf) (.slice ak N.keys.length ck) (.slice av N.vals.length cv) (.slice ai N.kids.length ci) (.int .i64 N.next)).alloc (.cells #[.bool N.leaf, .slice bk N.keys.length dk, .slice bv N.vals.length dv, .slice bi N.kids.length di, .int .i64 N.next] 43))
  have HY := hide (Box.new (t := 43) (w.alloc (.cells #[.bool N.leaf, .slice ak N.keys.length ck, .slice av N.vals.length cv, .slice ai N.kids.length ci, .int .i64 N.next] 43)) (.bool N.leaf) (.slice bk N.keys.length dk) (.slice bv N.vals.length dv) (.slice bi N.kids.length di) (.int .i64 N.next))
  have hsz : (w.alloc (.cells #[.bool N.leaf, .slice ak N.keys.length ck, .slice av N.vals.length cv, .slice ai N.kids.length ci, .int .i64 N.next] 43)).heap.size = w.heap.size + 1 := by simp
  rw [hsz] at HY
  have HK := hide h.keys
  have HV := hide h.vals
  have HI := hide h.kids
  have HK' := hide h'.keys
  have HV' := hide h'.vals
  have HI' := hide h'.kids
  have hk3 := hf.keys
  have hv3 := hf.vals
  have hi3 := hf.kids
  clear h h' hf hb1 hsz
  generalize hnk : N.keys.length = nk at *
  generalize hnv : N.vals.length = nv at *
  generalize hni : N.kids.length = ni at *
  generalize N.leaf = lf at *
  generalize N.next = x at *
  have HNK := hide hnk
  have HNV := hide hnv
  have HNI := hide hni
  clear hnk hnv hni
  go_enter Try.func16, Try.ntmps16
  go_upto_region 1 with fail
  generalize ((w.alloc (.cells #[.bool lf, .slice ak nk ck, .slice av nv cv, .slice ai ni ci, .int .i64 x] 43)).alloc (.cells #[.bool lf, .slice bk nk dk, .slice bv nv dv, .slice bi ni di, .int .i64 x] 43)) = W0 at *
  obtain ⟨k0, k1, k2, k3, k4, f0, f1, f2, f3, f4⟩ := HX.out.cells
  obtain ⟨j0, j1, j2, j3, j4, g0, g1, g2, g3, g4⟩ := HY.out.cells
  go_wp2
  go_loopw [5] (fun i wr => ∃ k m : Nat, k ≤ nk ∧ i = .int .i64 (k : Int) ∧ wr = W0.drewN m) (fun i _ => nk - (intOf i).toNat)
  case atStart => exact ⟨0, 0, by omega, rfl, rfl⟩
  case round =>
    obtain ⟨k, m, hk, rfl, rfl⟩ := hrel
    by_cases hlt : k < nk
    · obtain ⟨g, o, hao, hc⟩ := (HK.out.belowW HB.out).get k (by rw [HNK.out]; exact hlt)
      obtain ⟨g', o', hao', hc'⟩ := (HK'.out.belowW HB.out).get k (by rw [HNK.out]; exact hlt)
      subst hao hao'
      generalize strOf (N.keys.getD k []) = s at *
      have hn : (s.toList == s.toList) = true := by simp
      go_upto_region 6 with fail
      go_quiet (fail)
      go_wp2
      go_roundw
      case rel => exact ⟨k + 1, _, by omega, by go_num, rfl⟩
      case measure => simp [intOf]; omega
    · have hkL : k = nk := by omega
      subst hkL
      go_wp2
      go_loopw [6] (fun i wr => ∃ k2 m : Nat, k2 ≤ nv ∧ i = .int .i64 (k2 : Int) ∧ wr = W0.drewN m) (fun i _ => nv - (intOf i).toNat)
      case atStart => exact ⟨0, m, by omega, rfl, rfl⟩
      case round =>
        obtain ⟨k, m, hk, rfl, rfl⟩ := hrel
        by_cases hlt : k < nv
        · obtain ⟨g, o, hao, hc⟩ := (HV.out.belowW HB.out).get k (by rw [HNV.out]; exact hlt)
          obtain ⟨g', o', hao', hc'⟩ := (HV'.out.belowW HB.out).get k (by rw [HNV.out]; exact hlt)
          subst hao hao'
          generalize strOf (N.vals.getD k []) = s at *
          have hn : (s.toList == s.toList) = true := by simp
          go_upto_region 11 with fail
          go_quiet (fail)
          go_wp2
          go_roundw
          case rel => exact ⟨k + 1, _, by omega, by go_num, rfl⟩
          case measure => simp [intOf]; omega
        · have hkL : k = nv := by omega
          subst hkL
          go_wp2
          go_loopw [7] (fun i wr => ∃ k2 m : Nat, k2 ≤ ni ∧ i = .int .i64 (k2 : Int) ∧ wr = W0.drewN m) (fun i _ => ni - (intOf i).toNat)
          case atStart => exact ⟨0, m, by omega, rfl, rfl⟩
          case round =>
            obtain ⟨k, m, hk, rfl, rfl⟩ := hrel
            by_cases hlt : k < ni
            · obtain ⟨g, o, hao, hc⟩ := (HI.out.belowW HB.out).get k (by rw [HNI.out]; exact hlt)
              obtain ⟨g', o', hao', hc'⟩ := (HI'.out.belowW HB.out).get k (by rw [HNI.out]; exact hlt)
              subst hao hao'
              generalize N.kids.getD k 0 = s at *
              have hn : (s == s) = true := by simp
              go_upto_region 16 with fail
              go_quiet (fail)
              go_wp2
              go_roundw
              case rel => exact ⟨k + 1, _, by omega, by go_num, rfl⟩
              case measure => simp [intOf]; omega
            · have hkL : k = ni := by omega
              subst hkL
              go_wp2
              go_ret
              exact ⟨rfl, HB.out.trans (below_drewN _ _ _)⟩
end Go.Proofs.Ytjcobejaldfibaa
