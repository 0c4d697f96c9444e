/- The document's Split. -/
import Derived.Test.YtplpchaceiogaaaDoorRefD
namespace Go.Proofs.YtplpchaceiogaaaDoor
set_option maxRecDepth 100000
open Go.RowKit
set_option linter.unusedVariables false
set_option linter.unusedSimpArgs false

theorem decG_none {bs : List UInt8} (h : dec bs = none) : decG bs = .agg #[.int .i64 0, .int .i64 0, .string { data := #[] }, .bool false, .int .i64 0, .bool false] := by unfold decG; rw [h]
theorem decG_some {bs : List UInt8} {p : Vl × Nat} (h : dec bs = some p) : decG bs = .agg #[.int .i64 p.1.ty, .int .i64 p.1.n, .string (strOf p.1.t), .bool p.1.b, .int .i64 (p.2 : Int), .bool true] := by unfold decG; rw [h]; rfl
set_option maxHeartbeats 4000000 in
theorem rsplit_any {w : World} {v : Value} {bs : List UInt8} (h : Sl w v bs) (hl : bs.length ≤ 400000000) :
    Calls Tryd.prog 16 #[v] w (SplitEnd w bs) := by
  have H := hide h
  have hL0 : bs.length ≤ 400000000 := hl
  clear h hl
  go_enter Tryd.func16, Tryd.ntmps16
  go_wp2
  go_loopw [0, 4] (fun b u wr => ∃ (rest : List UInt8) (acc : List Vl) (f : Nat), Sl w b rest ∧ rest.length ≤ f ∧ acc.length + rest.length ≤ 400000000 ∧ splitN f rest acc = splitN bs.length bs [] ∧ Vals w wr u acc) (fun b _ _ => lenOfV b)
  case atStart => exact ⟨bs, [], bs.length, H.out, Nat.le_refl _, by simpa using hL0, rfl, Vals.nil (Below.refl _ _)⟩
  case round =>
    obtain ⟨rest, acc, f, hS, hf, hal, hsp, hV⟩ := hrel
    obtain ⟨ao, c, rfl, hc1, hc2⟩ := hS.len
    simp only [maxLen] at hc2
    have HS := hide hS
    have HV := hide hV
    have HSP := hide hsp
    have HF := hide hf
    have HAL := hide hal
    clear hS hV hsp hf
    by_cases hne : rest = []
    · have HR : Hid (splitN bs.length bs [] = some acc) := by
        rw [Hid, ← HSP.out, hne, splitN_nil]
      have e0 : rest.length = 0 := by rw [hne]; rfl
      clear hne
      have hz : ((rest.length : Nat) : Int) = 0 := by omega
      generalize rest.length = n at *
      subst e0
      clear hz
      go_wp2
      refine bodyPost_ret (results_tmp2 rfl _ _ _) rfl ?_
      unfold SplitEnd
      rw [HR.out]
      exact ⟨_, rfl, HV.out⟩
    · have hpos : 1 ≤ rest.length := by
        cases rest with
        | nil => exact absurd rfl hne
        | cons a r => simp
      have HD := hide (rdecode_any (HS.out.belowW HV.out.below) (by omega))
      cases hd : dec rest with
      | none =>
        have HR : Hid (splitN bs.length bs [] = none) := by rw [Hid, ← HSP.out, splitN_none HF.out hne hd]
        rw [decG_none hd] at HD
        clear hd hne
        generalize rest.length = n at *
        go_wp2_with fail
        refine HD.out.mono ?_
        rintro e W2 ⟨rfl, hB2⟩
        have HB2 := hide (HV.out.below.trans (hB2.mono HV.out.below.size))
        clear hB2
        go_wp2
        refine bodyPost_ret (results_tmp2 rfl _ _ _) rfl ?_
        unfold SplitEnd
        rw [HR.out]
        exact ⟨rfl, HB2.out.alloc HB2.out.size _⟩
      | some p =>
        obtain ⟨f', hf', hsp'⟩ := splitN_some (acc := acc) HF.out hne hd
        have hsz := dec_size hd
        have HR : Hid (splitN f' (rest.drop p.2) (acc ++ [p.1]) = splitN bs.length bs []) := by rw [Hid, ← HSP.out, hsp']
        have HF' := hide hf'
        rw [decG_some hd] at HD
        have hcut : ∀ W, (Instr.sliceAt 30 (.slice ao rest.length c) (some (.int .i64 (p.2 : Int))) none none).run Tryd.prog W = .ok (.slice (cutAt ao c p.2) (rest.length - p.2) (c - p.2)) W := fun W => run_cut_from W ao rest.length c p.2 hsz.2.1
        have HSF := hide (HS.out.from p.2 hsz.2.1)
        have HDL : Hid ((rest.drop p.2).length = rest.length - p.2) := by rw [Hid, List.length_drop]
        have hp1 := hsz.1
        have hp2 := hsz.2.1
        clear hd hne hf' hsp' hsz
        generalize p.1 = V at *
        generalize p.2 = m at *
        generalize hn : rest.length = n at *
        clear hn
        have hbv := buildV V
        have HX : Hid (∀ (W : World) (o : Obj), VsAt ((W.alloc o).alloc (.cells #[.int .i64 V.ty, .int .i64 V.n, .string (strOf V.t), .bool V.b] 32)) (.slice (some ⟨W.heap.size + 1, 0, none⟩) 1 1) [V]) := fun W o => vsAt2 W o V
        generalize cutAt ao c m = ac at *
        go_wp2_with fail
        refine HD.out.mono ?_
        rintro e W2 ⟨rfl, hB2⟩
        have HV2 := hide (HV.out.belowW hB2)
        clear hB2
        go_upto_region 7 with (refine wpList_append_vals rfl (.tmp 14) (.tmp 17) rfl w _ _ _ _ rfl rfl ((HV2.out.alloc _).alloc _) (HX.out _ _) (by simp; omega) ?_; intro u3 W3 hV3 hg3)
        have HBX : Hid (((W2.alloc (.cells #[.int .i64 V.ty, .int .i64 V.n, .string (strOf V.t), .bool V.b, .int .i64 (m : Int), .bool true] 66)).alloc (.cells #[.int .i64 V.ty, .int .i64 V.n, .string (strOf V.t), .bool V.b] 32)).heap[W2.heap.size]? = some (.cells #[.int .i64 V.ty, .int .i64 V.n, .string (strOf V.t), .bool V.b, .int .i64 (m : Int), .bool true] 66 (0, 0))) := (Below.heap_alloc _ _ _ (by simp)).trans (heap_alloc_new W2 _)
        have hq3 := grown_rec ((HV2.out.alloc _).alloc _).own hg3 HBX.out (by decide)
        have z4 := cell_row (o := 4) hq3
        simp only [List.getElem?_toArray, List.getElem?_cons_zero, List.getElem?_cons_succ] at z4
        have HV3 := hide hV3
        clear hq3 hg3 HBX hV3
        generalize W2.heap.size = b at *
        go_wp2
        go_roundw
        case rel =>
          exact ⟨rest.drop m, acc ++ [V], f', HSF.out, HF'.out, by rw [HDL.out]; simp; omega, HR.out, HV3.out⟩
        case measure => simp [lenOfV]; omega
end Go.Proofs.YtplpchaceiogaaaDoor
