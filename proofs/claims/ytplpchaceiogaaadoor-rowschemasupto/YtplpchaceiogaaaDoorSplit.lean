/- Split: the values that bytes are. -/
import Derived.Test.YtplpchaceiogaaaDoorVals
import Derived.Laws.StructEq
namespace Go.Proofs.YtplpchaceiogaaaDoor
set_option maxRecDepth 100000
open Go.RowKit
set_option linter.unusedVariables false
set_option linter.unusedSimpArgs false

def lenOfV : Value → Nat
  | .slice _ n _ => n
  | _ => 0
theorem vsAt2 (W : World) (o : Obj) (V : Vl) : VsAt ((W.alloc o).alloc (.cells #[.int .i64 V.ty, .int .i64 V.n, .string (strOf V.t), .bool V.b] 32)) (.slice (some ⟨W.heap.size + 1, 0, none⟩) 1 1) [V] := by
  have := vsAt1 (W.alloc o) V
  rwa [show (W.alloc o).heap.size = W.heap.size + 1 by simp] at this
def SplitEnd (w : World) (bs : List UInt8) (e : Ending) (w' : World) : Prop := match splitN bs.length bs [] with
  | none => e = .returned (.tuple #[.slice none 0 0, .bool false]) ∧ Below w.heap.size w w'
  | some l => ∃ u, e = .returned (.tuple #[u, .bool true]) ∧ Vals w w' u l
theorem decV_none {bs : List UInt8} (h : dec bs = none) : decV bs = .tuple #[.agg #[.int .i64 0, .int .i64 0, .string { data := #[] }, .bool false], .int .i64 0, .bool false] := by unfold decV; rw [h]
theorem decV_some {bs : List UInt8} {p : Vl × Nat} (h : dec bs = some p) : decV bs = .tuple #[.agg #[.int .i64 p.1.ty, .int .i64 p.1.n, .string (strOf p.1.t), .bool p.1.b], .int .i64 (p.2 : Int), .bool true] := by unfold decV; rw [h]; rfl
set_option maxHeartbeats 4000000 in
theorem split_any {w : World} {v : Value} {bs : List UInt8} (h : Sl w v bs) (hl : bs.length ≤ 400000000) :
    Calls Tryd.prog 35 #[v] w (SplitEnd w bs) := by
  have H := hide h
  have hL0 : bs.length ≤ 400000000 := hl
  clear h hl
  go_enter Tryd.func35, Tryd.ntmps35
  go_wp2
  go_loopw [0, 4] (fun b u wr => ∃ (rest : List UInt8) (acc : List Vl) (f : Nat), Sl w b rest ∧ rest.length ≤ f ∧ acc.length + rest.length ≤ 400000000 ∧ splitN f rest acc = splitN bs.length bs [] ∧ Vals w wr u acc) (fun b _ _ => lenOfV b)
  case atStart => exact ⟨bs, [], bs.length, H.out, Nat.le_refl _, by simpa using hL0, rfl, Vals.nil (Below.refl _ _)⟩
  case round =>
    obtain ⟨rest, acc, f, hS, hf, hal, hsp, hV⟩ := hrel
    obtain ⟨ao, c, rfl, hc1, hc2⟩ := hS.len
    simp only [maxLen] at hc2
    have HS := hide hS
    have HV := hide hV
    have HSP := hide hsp
    have HF := hide hf
    have HAL := hide hal
    clear hS hV hsp hf
    by_cases hne : rest = []
    · have HR : Hid (splitN bs.length bs [] = some acc) := by
        rw [Hid, ← HSP.out, hne, splitN_nil]
      have e0 : rest.length = 0 := by rw [hne]; rfl
      clear hne
      have hz : ((rest.length : Nat) : Int) = 0 := by omega
      generalize rest.length = n at *
      subst e0
      clear hz
      go_wp2
      refine bodyPost_ret (results_tmp2 rfl _ _ _) rfl ?_
      unfold SplitEnd
      rw [HR.out]
      exact ⟨_, rfl, HV.out⟩
    · have hpos : 1 ≤ rest.length := by
        cases rest with
        | nil => exact absurd rfl hne
        | cons a r => simp
      have HD := hide (decode_any (HS.out.belowW HV.out.below) (by omega))
      cases hd : dec rest with
      | none =>
        have HR : Hid (splitN bs.length bs [] = none) := by rw [Hid, ← HSP.out, splitN_none HF.out hne hd]
        rw [decV_none hd] at HD
        clear hd hne
        generalize rest.length = n at *
        go_wp2_with fail
        refine HD.out.mono ?_
        rintro e W2 ⟨rfl, hB2⟩
        have HB2 := hide (HV.out.below.trans (hB2.mono HV.out.below.size))
        clear hB2
        go_wp2
        refine bodyPost_ret (results_tmp2 rfl _ _ _) rfl ?_
        unfold SplitEnd
        rw [HR.out]
        exact ⟨rfl, HB2.out.alloc HB2.out.size _⟩
      | some p =>
        obtain ⟨f', hf', hsp'⟩ := splitN_some (acc := acc) HF.out hne hd
        have hsz := dec_size hd
        have HR : Hid (splitN f' (rest.drop p.2) (acc ++ [p.1]) = splitN bs.length bs []) := by rw [Hid, ← HSP.out, hsp']
        have HF' := hide hf'
        rw [decV_some hd] at HD
        have hcut : ∀ W, (Instr.sliceAt 30 (.slice ao rest.length c) (some (.int .i64 (p.2 : Int))) none none).run Tryd.prog W = .ok (.slice (cutAt ao c p.2) (rest.length - p.2) (c - p.2)) W := fun W => run_cut_from W ao rest.length c p.2 hsz.2.1
        have HSF := hide (HS.out.from p.2 hsz.2.1)
        have HDL : Hid ((rest.drop p.2).length = rest.length - p.2) := by rw [Hid, List.length_drop]
        have hp1 := hsz.1
        have hp2 := hsz.2.1
        clear hd hne hf' hsp' hsz
        generalize p.1 = V at *
        generalize p.2 = m at *
        generalize hn : rest.length = n at *
        clear hn
        have hbv := buildV V
        have HX : Hid (∀ (W : World) (o : Obj), VsAt ((W.alloc o).alloc (.cells #[.int .i64 V.ty, .int .i64 V.n, .string (strOf V.t), .bool V.b] 32)) (.slice (some ⟨W.heap.size + 1, 0, none⟩) 1 1) [V]) := fun W o => vsAt2 W o V
        generalize cutAt ao c m = ac at *
        go_wp2_with fail
        refine HD.out.mono ?_
        rintro e W2 ⟨rfl, hB2⟩
        have HV2 := hide (HV.out.belowW hB2)
        clear hB2
        go_wp2_with (refine wpList_append_vals rfl (.tmp 19) (.tmp 21) rfl w _ _ _ _ rfl rfl ((HV2.out.alloc _).alloc _) (HX.out _ _) (by simp; omega) ?_; intro u3 W3 hV3 hg3)
        go_roundw
        case rel =>
          exact ⟨rest.drop m, acc ++ [V], f', HSF.out, HF'.out, by rw [HDL.out]; simp; omega, HR.out, hV3⟩
        case measure => simp [lenOfV]; omega
/-! ### Same -/
theorem Tryd.under32 : Tryd.prog.underlying 32 = some (.struct (Tryd.prog.fieldsOf 32)) := by kernel_rfl
theorem vl_ext {A B : Vl} (h0 : A.ty = B.ty) (h1 : A.n = B.n) (h2 : A.t = B.t) (h3 : A.b = B.b) : A = B := by
  cases A; cases B; simp_all
theorem eq23 (w : World) (A B : Vl) (b : Bool) (hb : b = true ↔ A = B) : (Op.equalIn 10000 32 (.agg #[.int .i64 A.ty, .int .i64 A.n, .string (strOf A.t), .bool A.b]) (.agg #[.int .i64 B.ty, .int .i64 B.n, .string (strOf B.t), .bool B.b])).run Tryd.prog w = .ok b w := by
  have u3 := Tryd.underlying3
  have u9 := Tryd.underlying9
  have u4 := Tryd.underlying4
  have a3 := Tryd.isAgg3
  have a9 := Tryd.isAgg9
  have a4 := Tryd.isAgg4
  have z3 : ∀ w, (sizeOf 3).run Tryd.prog w = .ok 1 w := fun w => by kernel_rfl
  have z9 : ∀ w, (sizeOf 9).run Tryd.prog w = .ok 1 w := fun w => by kernel_rfl
  have z4 : ∀ w, (sizeOf 4).run Tryd.prog w = .ok 1 w := fun w => by kernel_rfl
  have hp : Tryd.prog.stoodInHeld 32 = false := by kernel_rfl
  have e1 := strOf_toList A.t
  have e2 := strOf_toList B.t
  rw [show (10000 : Nat) = 9999 + 1 from rfl, run_equalIn_agg w 9999 32 _ _ Tryd.under32 hp]
  simp only [Program.fieldsOf, Tryd.underlying32]
  go_simp
  by_cases h0 : A.ty = B.ty
  · by_cases h1 : A.n = B.n
    · by_cases h2 : A.t = B.t
      · by_cases h3 : A.b = B.b
        · have : b = true := hb.2 (vl_ext h0 h1 h2 h3)
          simp [h0, h1, h2, h3, e1, e2, this]
        · have : b = false := by
            cases b
            · rfl
            · exact absurd (congrArg Vl.b (hb.1 rfl)) h3
          simp [h0, h1, h2, h3, e1, e2, this]
      · have : b = false := by
          cases b
          · rfl
          · exact absurd (congrArg Vl.t (hb.1 rfl)) h2
        simp [h0, h1, h2, e1, e2, this]
    · have : b = false := by
        cases b
        · rfl
        · exact absurd (congrArg Vl.n (hb.1 rfl)) h1
      simp [h0, h1, e1, e2, this]
  · have : b = false := by
      cases b
      · rfl
      · exact absurd (congrArg Vl.ty (hb.1 rfl)) h0
    simp [h0, e1, e2, this]
theorem run_eql23 (w : World) (A B : Vl) (b : Bool) (hb : b = true ↔ A = B) : (binOp .eql 32 (.agg #[.int .i64 A.ty, .int .i64 A.n, .string (strOf A.t), .bool A.b]) (.agg #[.int .i64 B.ty, .int .i64 B.n, .string (strOf B.t), .bool B.b])).run Tryd.prog w = .ok (.bool b) w := by
  rw [run_eql_struct, eq23 w A B b hb]
  rfl
theorem run_neq23 (w : World) (A B : Vl) (b : Bool) (hb : b = true ↔ A = B) : (binOp .neq 32 (.agg #[.int .i64 A.ty, .int .i64 A.n, .string (strOf A.t), .bool A.b]) (.agg #[.int .i64 B.ty, .int .i64 B.n, .string (strOf B.t), .bool B.b])).run Tryd.prog w = .ok (.bool (!b)) w := by
  rw [run_neq_struct, eq23 w A B b hb]
  rfl
end Go.Proofs.YtplpchaceiogaaaDoor
