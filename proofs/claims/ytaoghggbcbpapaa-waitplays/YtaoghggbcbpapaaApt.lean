/- apart: the edges that touch none of some numbers; Without. -/
import Derived.Test.YtaoghggbcbpapaaTrn
namespace Go.Proofs.Ytaoghggbcbpapaa
open Go.RowKit
set_option linter.unusedVariables false
set_option linter.unusedSimpArgs false

def apt (E : List (Int × Int)) (G : List Int) : List (Int × Int) := E.filter fun e => !G.contains e.1 && !G.contains e.2
theorem apt_snoc (E : List (Int × Int)) (G : List Int) (a b : Int) : apt (E ++ [(a, b)]) G = if (!G.contains a && !G.contains b) = true then apt E G ++ [(a, b)] else apt E G := by
  unfold apt
  rw [List.filter_append, List.filter_cons]
  by_cases h : (!G.contains a && !G.contains b) = true
  · rw [if_pos h, if_pos h]; rfl
  · rw [if_neg h, if_neg h]; simp
theorem apt_len (E : List (Int × Int)) (G : List Int) : (apt E G).length ≤ E.length := List.length_filter_le _ _
set_option maxHeartbeats 2000000 in
set_option maxRecDepth 100000 in
theorem apart_any {w : World} {a : Option Addr} {c : Nat} {E : List (Int × Int)} (hE : EdgesAt w a E) {vg : Value} {G : List Int} (hG : Row w vg G.length (G.map icell)) (hr : G.Pairwise (· < ·)) (hGl : G.length ≤ 2000000) :
    Calls Try.prog 21 #[.slice a E.length c, vg] w fun e w' => ∃ v, e = .returned v ∧ w'.ownsRow w.heap.size 24 2 v (apt E G).length (ecells (apt E G)) ∧ Below w.heap.size w w' := by
  have HE := hide hE
  have hlen := hE.len
  obtain ⟨n, hn⟩ : ∃ n, E.length = n := ⟨_, rfl⟩
  have HN := hide hn
  rw [hn] at hlen ⊢
  clear hn hE
  have HS : Hid (∀ W x, Below w.heap.size w W → Calls Try.prog 22 #[vg, .int .i64 x] W fun e w' => e = .returned (.tuple #[.int .i64 (place G x : Nat), .bool (G.contains x)]) ∧ ∃ q, w' = W.drewN q) := fun W x hb => search_any (hG.belowW hb) hr (by omega) x
  clear hG hr hGl
  have hb2 := run_buildS24
  go_enter Try.func21, Try.ntmps21
  go_wp2
  go_loopw [5, 14] (fun v i wr => ∃ (k : Nat) (F : List (Int × Int)), k ≤ n ∧ i = .int .i64 k ∧ F = apt (E.take k) G ∧ wr.ownsRow w.heap.size 24 2 v F.length (ecells F) ∧ Below w.heap.size w wr) (fun _ i _ => n - (intOf i).toNat)
  case atStart => exact ⟨0, [], by omega, rfl, by simp [apt], ⟨rfl, .inl ⟨rfl, rfl⟩⟩, Below.refl _ _⟩
  case round =>
    obtain ⟨k, F, hk, rfl, hF, hrow, hB⟩ := hrel
    have hFl : F.length ≤ k := by
      have h1 := apt_len (E.take k) G
      have h2 := List.length_take_le k E
      rw [hF]
      omega
    have HF := hide hF
    have HFL := hide hFl
    clear hF hFl
    by_cases hlt : k < n
    · obtain ⟨⟨p, q⟩, hx⟩ : ∃ x, E[k]? = some x := ⟨_, List.getElem?_eq_getElem (by rw [HN.out]; exact hlt)⟩
      obtain ⟨b, o, hab, hbl, hrg⟩ := HE.out.at' k _ hx
      subst hab
      have HRG : Hid (wr.rangeAt b (o + k * 2) [.int .i64 p, .int .i64 q]) := fun j v hv => (hB.cell (p := ⟨b, o + k * 2 + j, none⟩) hbl).trans (hrg j v hv)
      have HTK : Hid (E.take (k + 1) = E.take k ++ [(p, q)]) := take_snoc hx
      have HX := hide hx
      have HB := hide hB
      have H0HRX := hide hrow
      clear hB hrg hx hrow
      go_upto_region 5 with (refine wpList_load_mid rfl 24 _ rfl b (o + k * 2) rfl [.int .i64 p, .int .i64 q] _ HRG.out Try.underlying24 rfl Try.size24 ?_)
      generalize hx1 : wr.alloc _ = x1
      have hGx : x1.heap[wr.heap.size]? = some (.cells #[.int .i64 p, .int .i64 q] 24 (0, 0)) := by rw [← hx1]; exact heap_alloc_new _ _
      have hBx : Below wr.heap.size wr x1 := by rw [← hx1]; exact (Below.refl _ _).alloc (Nat.le_refl _) _
      have HRX := hide (owns_below H0HRX.out hBx (Nat.le_refl _))
      have HBX : Hid (Below w.heap.size w x1) := HB.out.trans (hBx.mono HB.out.size)
      have hgl : wr.heap.size < x1.heap.size := lt_of_heap hGx
      clear hx1 hBx HRG HB H0HRX
      generalize wr.heap.size = g at *
      have c0 : x1.cell? ⟨g, 0, none⟩ = some (.int .i64 p) := by rw [cell_row hGx]; rfl
      have c1 : x1.cell? ⟨g, 1, none⟩ = some (.int .i64 q) := by rw [cell_row hGx]; rfl
      clear hGx
      have HBq : Hid (∀ q, Below w.heap.size w (x1.drewN q)) := fun q => ⟨HBX.out.os, HBX.out.tape, HBX.out.output, HBX.out.size, HBX.out.block⟩
      have HAS := hide (apt_snoc (E.take k) G p q)
      cases hp : G.contains p with
      | true =>
        rw [hp] at HAS
        go_wp2_with (go_at_call 22; refine (HS.out _ _ (by first | exact HBX.out | exact HBq.out _)).mono ?_; rintro e w5 ⟨rfl, q5, rfl⟩; (first | rw [hp] | rw [hq] | skip))
        go_roundw
        case rel =>
          refine ⟨k + 1, F, by omega, by go_num, ?_, owns_below HRX.out (below_drewN _ _ _) (Nat.le_refl _), ⟨HBX.out.os, HBX.out.tape, HBX.out.output, HBX.out.size, HBX.out.block⟩⟩
          rw [HTK.out, HAS.out, HF.out]
          rfl
        case measure => simp [intOf]; omega
      | false =>
        rw [hp] at HAS
        cases hq : G.contains q with
        | true =>
          rw [hq] at HAS
          go_wp2_with (go_at_call 22; refine (HS.out _ _ (by first | exact HBX.out | exact HBq.out _)).mono ?_; rintro e w5 ⟨rfl, q5, rfl⟩; (first | rw [hp] | rw [hq] | skip))
          go_roundw
          case rel =>
            refine ⟨k + 1, F, by omega, by go_num, ?_, owns_below HRX.out (below_drewN _ _ _) (Nat.le_refl _), ⟨HBX.out.os, HBX.out.tape, HBX.out.output, HBX.out.size, HBX.out.block⟩⟩
            rw [HTK.out, HAS.out, HF.out]
            rfl
          case measure => simp [intOf]; omega
        | false =>
          rw [hq] at HAS
          go_upto_region 8 with (go_at_call 22; refine (HS.out _ _ (by first | exact HBX.out | exact HBq.out _)).mono ?_; rintro e w5 ⟨rfl, q5, rfl⟩; (first | rw [hp] | rw [hq] | skip))
          generalize hx2 : World.drewN _ _ = x2
          have HBX2 : Hid (Below w.heap.size w x2) := by rw [← hx2]; exact ⟨HBX.out.os, HBX.out.tape, HBX.out.output, HBX.out.size, HBX.out.block⟩
          have HRX2 : Hid (x2.ownsRow w.heap.size 24 2 u5 F.length (ecells F)) := by rw [← hx2]; exact owns_below HRX.out (below_drewN _ _ _) (Nat.le_refl _)
          have d0 : x2.cell? ⟨g, 0, none⟩ = some (.int .i64 p) := by rw [← hx2]; exact c0
          have d1 : x2.cell? ⟨g, 1, none⟩ = some (.int .i64 q) := by rw [← hx2]; exact c1
          clear hx2 c0 c1 HS HBX HRX hgl HBq
          have HR2 := hide (row_new x2 24 [.int .i64 p, .int .i64 q] 1 (by omega))
          have HB2 : Hid (Below w.heap.size w (x2.alloc (.cells #[.int .i64 p, .int .i64 q] 24))) := HBX2.out.trans ((Below.refl _ x2).alloc HBX2.out.size _)
          have HO2 : Hid ((x2.alloc (.cells #[.int .i64 p, .int .i64 q] 24)).ownsRow w.heap.size 24 2 u5 F.length (ecells F)) := owns_below HRX2.out ((Below.refl _ x2).alloc (Nat.le_refl _) _) (Nat.le_refl _)
          go_wp2_with (refine wpList_append_row rfl (.tmp 38) (.tmp 40) 22 rfl w.heap.size 24 (.agg #[.int .i64 0, .int .i64 0]) 2 16 Try.underlying22 Try.info24 rfl (by omega) _ _ _ _ 1 _ rfl rfl HO2.out HR2.out rfl (by simp [Value.oneCell']) (by have := HFL.out; omega) (by have := HFL.out; omega) HB2.out.size ?_; intro v7 w7 ho7 hg7)
          go_roundw
          case rel =>
            refine ⟨k + 1, F ++ [(p, q)], by omega, by go_num, ?_, ?_, HB2.out.grown hg7 HB2.out.size (fun k hk => (HO2.out.lt k hk).1)⟩
            · rw [HTK.out, HAS.out, HF.out]; rfl
            · rw [ecells_snoc, List.length_append]
              exact ho7
          case measure => simp [intOf]; omega
    · have HG : Hid (F = apt E G) := by
        show _ = _
        rw [HF.out, List.take_of_length_le (by rw [HN.out]; omega)]
      have HROW := hide hrow
      have HB := hide hB
      clear hrow hB
      go_wp2
      go_ret
      exact ⟨_, rfl, by rw [← HG.out]; exact HROW.out, HB.out⟩
theorem without_apt (E : List (Int × Int)) (x : Int) : apt E [x] = without E x := by
  unfold apt without
  refine List.filter_congr fun e _ => ?_
  simp [List.contains, List.elem, bne]
  cases h1 : e.1 == x <;> cases h2 : e.2 == x <;> rfl
set_option maxHeartbeats 1000000 in
theorem without_any {w : World} {a : Option Addr} {c : Nat} {E : List (Int × Int)} (hE : EdgesAt w a E) (x : Int) :
    Calls Try.prog 15 #[.slice a E.length c, .int .i64 x] w fun e w' => ∃ v, e = .returned v ∧ w'.ownsRow w.heap.size 24 2 v (without E x).length (ecells (without E x)) ∧ Below w.heap.size w w' := by
  have hb0 : Below w.heap.size w (w.alloc (.cells #[.int .i64 x] 3)) := (Below.refl _ w).alloc (Nat.le_refl _) _
  have HA := hide (apart_any (c := c) (hE.belowW hb0) (G := [x]) (row_new w 3 [.int .i64 x] 1 (by omega)) (by simp) (by simp))
  have HB := hide hb0
  clear hb0 hE
  go_enter Try.func15, Try.ntmps15
  go_wp2_with (go_at_call 21; refine HA.out.mono ?_; rintro e w5 ⟨v5, rfl, hr5, hb5⟩)
  go_ret
  rw [without_apt] at hr5
  exact ⟨_, rfl, owns_mono hr5 HB.out.size, HB.out.trans (hb5.mono HB.out.size)⟩
end Go.Proofs.Ytaoghggbcbpapaa
