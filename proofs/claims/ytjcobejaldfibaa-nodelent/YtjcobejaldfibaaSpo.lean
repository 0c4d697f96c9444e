/- The closure that spoils a node. -/
import Derived.Test.YtjcobejaldfibaaShp
namespace Go.Proofs.Ytjcobejaldfibaa
open Go.RowKit
set_option linter.unusedVariables false
set_option linter.unusedSimpArgs false

set_option maxHeartbeats 4000000 in
set_option maxRecDepth 100000 in
theorem spoil_any {base : Nat} {W : World} {lf : Bool} {a b c : Value} {nx : Int} (h : NdSh base W a b c) (hb : base ≤ W.heap.size) :
    Calls Try.prog 25 #[.agg #[.bool lf, a, b, c, .int .i64 nx]] W fun e W' => (∃ v, e = .returned v) ∧ TyK [5, 28, 3] base W W' := by
  obtain ⟨a1, n1, c1, rfl, hn1, _⟩ := h.keys
  obtain ⟨a2, n2, c2, rfl, hn2, _⟩ := h.vals
  obtain ⟨a3, n3, c3, rfl, hn3, _⟩ := h.kids
  have HB1 : Hid (Box 26 (W.alloc (.cells #[.bool lf, .slice a1 n1 c1, .slice a2 n2 c2, .slice a3 n3 c3, .int .i64 nx] 26)) W.heap.size (.bool lf) (.slice a1 n1 c1) (.slice a2 n2 c2) (.slice a3 n3 c3) (.int .i64 nx)) := Box.new _ _ _ _ _ _
  have HT0 : Hid (TyK [5, 28, 3] base W (W.alloc (.cells #[.bool lf, .slice a1 n1 c1, .slice a2 n2 c2, .slice a3 n3 c3, .int .i64 nx] 26))) := TyK.of_below ((Below.refl _ _).alloc (Nat.le_refl _) _) hb
  have H := hide (h.keep HT0.out)
  clear h hb
  go_enter Try.func25, Try.ntmps25
  go_upto_region 1 with fail
  generalize W.alloc (.cells #[.bool lf, .slice a1 n1 c1, .slice a2 n2 c2, .slice a3 n3 c3, .int .i64 nx] 26) = W1 at *
  generalize W.heap.size = mb at *
  have HTS : Hid (TyK [5, 28, 3] base W1 W1) := TyK.refl _ _ _
  go_wp2
  go_loopw [2] (fun i wr => ∃ k : Nat, k ≤ n1 ∧ i = .int .i64 (k : Int) ∧ Hid (TyK [5, 28, 3] base W1 wr)) (fun i _ => n1 - (intOf i).toNat)
  case atStart => exact ⟨0, Nat.zero_le _, rfl, HTS.out⟩
  case round =>
    obtain ⟨k, hk, rfl, HT⟩ := hrel
    clear HTS
    by_cases hkn : k < n1
    · obtain ⟨_, _, _, e0, _, hr⟩ := H.out.keys.keep HT.out
      injection e0 with e1 e2 e3
      subst e1 e2 e3
      obtain ⟨g, C, ea, hgb, hC, hj⟩ := hr (by omega)
      obtain ⟨u, hu, hbs⟩ := hj k hkn
      have HBS := hide hbs
      obtain ⟨ua, un, uc, eu, hun, _⟩ := hbs
      subst ea eu
      have HC := hide hC
      have HU := hide hu
      have HGB := hide hgb
      have hck : wr.cell? ⟨g, k, none⟩ = some (.slice ua un uc) := (cell_row hC).trans hu
      clear hr hj hC hu hgb
      obtain ⟨k0, k1, k2, k3, k4, f0, f1, f2, f3, f4⟩ := (HT.out.box HB1.out (by decide)).cells
      go_wp2
      clear k0 k1 k2 k3 k4 f0 f1 f2 f3 f4 
      clear hck
      generalize wr = wo at *
      go_loopw [3] (fun i wr2 => ∃ m : Nat, m ≤ un ∧ i = .int .i64 (m : Int) ∧ Hid (TyK [5] base wo wr2)) (fun i _ => un - (intOf i).toNat)
      case atStart => exact ⟨0, Nat.zero_le _, rfl, TyK.refl _ _ _⟩
      case round =>
        obtain ⟨m, hm, rfl, HT2⟩ := hrel
        have hC2 : wr.heap[g]? = some (.cells C 28 (0, 0)) := HT2.out.oth _ _ _ _ HC.out (by decide)
        have hck : wr.cell? ⟨g, k, none⟩ = some (.slice ua un uc) := (cell_row hC2).trans HU.out
        have hfk : wr.frozen? ⟨g, k, none⟩ = false := frozen_row hC2
        have HC2 := hide hC2
        clear hC2
        obtain ⟨k0, k1, k2, k3, k4, f0, f1, f2, f3, f4⟩ := (HT2.out.box (HT.out.box HB1.out (by decide)) (by decide)).cells
        by_cases hmu : m < un
        · obtain ⟨_, _, _, e0, _, hr⟩ := HBS.out.keep HT2.out
          injection e0 with e1 e2 e3
          subst e1 e2 e3
          obtain ⟨gu, D, ea, hgu, hD, hj⟩ := hr (by omega)
          obtain ⟨x, hx, hx1, hx2⟩ := hj m hmu
          subst ea
          have hcm : wr.cell? ⟨gu, m, none⟩ = some (.int .u8 x) := (cell_row hD).trans hx
          have hfm : wr.frozen? ⟨gu, m, none⟩ = false := frozen_row hD
          have HST : Hid (∀ y : Int, 0 ≤ y → y < 256 → TyK [5] base wo (wr.setCell ⟨gu, m, none⟩ (.int .u8 y))) := fun y h1 h2 => HT2.out.trans (TyK.set hD (by simp) hgu hx (.inr (.inl ⟨x, y, rfl, rfl, h1, h2⟩)))
          clear hr hj hgu hD hx
          go_wp2
          go_roundw
          case rel => exact ⟨m + 1, by omega, by go_num, HST.out _ (by first | omega | (split <;> omega)) (by first | omega | (split <;> omega))⟩
          case measure => simp [intOf]; omega
        · have hme : m = un := by omega
          subst hme
          have HST := hide ((HT.out.trans (HT2.out.mono (ts' := [5, 28, 3]) (by simp))).trans (TyK.set (ts := [5, 28, 3]) (u' := .slice none 0 0) HC2.out (by simp) HGB.out HU.out (.inr (.inr (.inr ⟨_, _, _, rfl, rfl⟩)))))
          go_wp2
          go_roundw
          case rel => exact ⟨k + 1, by omega, by go_num, HST.out⟩
          case measure => simp [intOf]; omega
    · have hke : k = n1 := by omega
      subst hke
      obtain ⟨k0, k1, k2, k3, k4, f0, f1, f2, f3, f4⟩ := (HT.out.box HB1.out (by decide)).cells
      go_wp2
      clear k0 k1 k2 k3 k4 f0 f1 f2 f3 f4
      have HTS := HT
      clear HT
      generalize wr = wz at *
      go_loopw [4] (fun i wr => ∃ k : Nat, k ≤ n3 ∧ i = .int .i64 (k : Int) ∧ Hid (TyK [5, 28, 3] base W1 wr)) (fun i _ => n3 - (intOf i).toNat)
      case atStart => exact ⟨0, Nat.zero_le _, rfl, HTS.out⟩
      case round =>
        obtain ⟨k, hk, rfl, HT⟩ := hrel
        clear HTS
        obtain ⟨k0, k1, k2, k3, k4, f0, f1, f2, f3, f4⟩ := (HT.out.box HB1.out (by decide)).cells
        by_cases hkn : k < n3
        · obtain ⟨_, _, _, e0, _, hr⟩ := H.out.kids.keep HT.out
          injection e0 with e1 e2 e3
          subst e1 e2 e3
          obtain ⟨g, C, ea, hgb, hC, hj⟩ := hr (by omega)
          obtain ⟨x, hx⟩ := hj k hkn
          subst ea
          have hck : wr.cell? ⟨g, k, none⟩ = some (.int .i64 x) := (cell_row hC).trans hx
          have hfk : wr.frozen? ⟨g, k, none⟩ = false := frozen_row hC
          have HST := hide (HT.out.trans (TyK.set (ts := [5, 28, 3]) (u' := .int .i64 (-5)) hC (by simp) hgb hx (.inr (.inr (.inl ⟨_, _, rfl, rfl⟩)))))
          clear hr hj hC hx hgb
          go_wp2
          go_roundw
          case rel => exact ⟨k + 1, by omega, by go_num, HST.out⟩
          case measure => simp [intOf]; omega
        · have hke : k = n3 := by omega
          subst hke
          go_wp2
          clear k0 k1 k2 k3 k4 f0 f1 f2 f3 f4
          have HTS := HT
          clear HT
          generalize wr = wz at *
          go_loopw [5] (fun i wr => ∃ k : Nat, k ≤ n2 ∧ i = .int .i64 (k : Int) ∧ Hid (TyK [5, 28, 3] base W1 wr)) (fun i _ => n2 - (intOf i).toNat)
          case atStart => exact ⟨0, Nat.zero_le _, rfl, HTS.out⟩
          case round =>
            obtain ⟨k, hk, rfl, HT⟩ := hrel
            clear HTS
            by_cases hkn : k < n2
            · obtain ⟨_, _, _, e0, _, hr⟩ := H.out.vals.keep HT.out
              injection e0 with e1 e2 e3
              subst e1 e2 e3
              obtain ⟨g, C, ea, hgb, hC, hj⟩ := hr (by omega)
              obtain ⟨u, hu, hbs⟩ := hj k hkn
              have HBS := hide hbs
              obtain ⟨ua, un, uc, eu, hun, _⟩ := hbs
              subst ea eu
              have HC := hide hC
              have HU := hide hu
              have HGB := hide hgb
              have hck : wr.cell? ⟨g, k, none⟩ = some (.slice ua un uc) := (cell_row hC).trans hu
              clear hr hj hC hu hgb
              obtain ⟨k0, k1, k2, k3, k4, f0, f1, f2, f3, f4⟩ := (HT.out.box HB1.out (by decide)).cells
              go_wp2
              clear k0 k1 k2 k3 k4 f0 f1 f2 f3 f4 
              clear hck
              generalize wr = wo at *
              go_loopw [6] (fun i wr2 => ∃ m : Nat, m ≤ un ∧ i = .int .i64 (m : Int) ∧ Hid (TyK [5] base wo wr2)) (fun i _ => un - (intOf i).toNat)
              case atStart => exact ⟨0, Nat.zero_le _, rfl, TyK.refl _ _ _⟩
              case round =>
                obtain ⟨m, hm, rfl, HT2⟩ := hrel
                have hC2 : wr.heap[g]? = some (.cells C 28 (0, 0)) := HT2.out.oth _ _ _ _ HC.out (by decide)
                have hck : wr.cell? ⟨g, k, none⟩ = some (.slice ua un uc) := (cell_row hC2).trans HU.out
                have hfk : wr.frozen? ⟨g, k, none⟩ = false := frozen_row hC2
                have HC2 := hide hC2
                clear hC2
                obtain ⟨k0, k1, k2, k3, k4, f0, f1, f2, f3, f4⟩ := (HT2.out.box (HT.out.box HB1.out (by decide)) (by decide)).cells
                by_cases hmu : m < un
                · obtain ⟨_, _, _, e0, _, hr⟩ := HBS.out.keep HT2.out
                  injection e0 with e1 e2 e3
                  subst e1 e2 e3
                  obtain ⟨gu, D, ea, hgu, hD, hj⟩ := hr (by omega)
                  obtain ⟨x, hx, hx1, hx2⟩ := hj m hmu
                  subst ea
                  have hcm : wr.cell? ⟨gu, m, none⟩ = some (.int .u8 x) := (cell_row hD).trans hx
                  have hfm : wr.frozen? ⟨gu, m, none⟩ = false := frozen_row hD
                  have HST : Hid (∀ y : Int, 0 ≤ y → y < 256 → TyK [5] base wo (wr.setCell ⟨gu, m, none⟩ (.int .u8 y))) := fun y h1 h2 => HT2.out.trans (TyK.set hD (by simp) hgu hx (.inr (.inl ⟨x, y, rfl, rfl, h1, h2⟩)))
                  clear hr hj hgu hD hx
                  go_wp2
                  go_roundw
                  case rel => exact ⟨m + 1, by omega, by go_num, HST.out _ (by first | omega | (split <;> omega)) (by first | omega | (split <;> omega))⟩
                  case measure => simp [intOf]; omega
                · have hme : m = un := by omega
                  subst hme
                  have HST := hide (HT.out.trans (HT2.out.mono (ts' := [5, 28, 3]) (by simp)))
                  go_wp2
                  go_roundw
                  case rel => exact ⟨k + 1, by omega, by go_num, HST.out⟩
                  case measure => simp [intOf]; omega
            · have hke : k = n2 := by omega
              subst hke
              obtain ⟨k0, k1, k2, k3, k4, f0, f1, f2, f3, f4⟩ := (HT.out.box HB1.out (by decide)).cells
              have HEND := hide (HT0.out.trans HT.out)
              go_wp2
              refine bodyPost_end (results_none rfl _ _ _) rfl ?_
              exact ⟨⟨_, rfl⟩, HEND.out⟩
end Go.Proofs.Ytjcobejaldfibaa
