/- awake: the law's own example. -/
import Derived.Test.YtpjppolbkdnkaaaAwPlain
import Derived.Lib.SlBytesConst
namespace Go.Proofs.Ytpjppolbkdnkaaa
open Go.RowKit
set_option linter.unusedVariables false
set_option linter.unusedSimpArgs false

theorem DirtsAt.belowA {w w' : World} {a : Option Addr} {D : List (Int × Int)} (h : DirtsAt w a D) (hb : Below w.heap.size w w') : DirtsAt w' a D :=
  ⟨h.1, fun i x hx => by
    obtain ⟨h0, h0', b, o, h1, h2, h3⟩ := h.2 i x hx
    exact ⟨h0, h0', b, o, h1, Nat.lt_of_lt_of_le h2 hb.size, fun j v hv => (hb.cell (p := ⟨b, o + i * 2 + j, none⟩) h2).trans (h3 j v hv)⟩⟩
def awS (b : Nat) : Sv := ⟨some ⟨b, 0, none⟩, 1, 1⟩
theorem awLog (w : World) : LogAt (((w.alloc (.cells #[.int .u8 97] 5 (1, 2))).alloc (.cells #[.int .u8 98] 5 (1, 2))).alloc (.cells (lnCells aL1 ++ lnCells (aL2 (awS w.heap.size) (awS (w.heap.size + 1)))).toArray 34)) ⟨some ⟨w.heap.size + 1 + 1, 0, none⟩, 2, 2⟩ [aL1, aL2 (awS w.heap.size) (awS (w.heap.size + 1))] := by
  have hG : ∀ o : Obj, (((w.alloc (.cells #[.int .u8 97] 5 (1, 2))).alloc (.cells #[.int .u8 98] 5 (1, 2))).alloc o).heap[w.heap.size + 1 + 1]? = some o := fun o => by
    have := World.alloc_heap_new ((w.alloc (.cells #[.int .u8 97] 5 (1, 2))).alloc (.cells #[.int .u8 98] 5 (1, 2))) o
    rwa [World.size_alloc, World.size_alloc] at this
  refine ⟨rfl, by simp, by simp, fun a ha _ => ⟨_, _, (Option.some.inj ha).symm⟩, by simp, fun i x hx => ?_⟩
  have hok1 : aL1.ok := by constructor <;> simp [aL1, Ln.zero, In64]
  have hok2 : ∀ s t, (aL2 s t).ok := fun s t => by constructor <;> simp [aL2, Ln.zero, In64]
  match i with
  | 0 =>
    simp at hx
    subst hx
    refine ⟨hok1, _, _, rfl, by simp, fun j v hv => ?_⟩
    rw [cell_of_row _ _ _ _ _ _ (hG _), List.getElem?_toArray]
    have hj : j < 12 := by have := (List.getElem?_eq_some_iff.1 hv).1; simpa [lnCells, recCells] using this
    rw [Nat.zero_mul, Nat.zero_add, List.getElem?_append_left (by simpa [lnCells, recCells] using hj)]
    exact hv
  | 1 =>
    simp at hx
    subst hx
    refine ⟨hok2 _ _, _, _, rfl, by simp, fun j v hv => ?_⟩
    rw [cell_of_row _ _ _ _ _ _ (hG _), List.getElem?_toArray]
    rw [Nat.one_mul, Nat.zero_add, List.getElem?_append_right (by simp [lnCells, recCells]), show 12 + j - (lnCells aL1).length = j by simp [lnCells, recCells]]
    exact hv
  | i + 2 => simp at hx
set_option maxHeartbeats 1000000 in
set_option maxRecDepth 100000 in
theorem awake_any (w : World) : Calls Try.prog 10 #[] w fun e w' => e = .returned (.bool true) ∧ Below w.heap.size w w' := by
  have HLG := hide (awLog w)
  have HBY : Hid (Byt (((w.alloc (.cells #[.int .u8 97] 5 (1, 2))).alloc (.cells #[.int .u8 98] 5 (1, 2))).alloc (.cells (lnCells aL1 ++ lnCells (aL2 (awS w.heap.size) (awS (w.heap.size + 1)))).toArray 34)) (awS w.heap.size) [.int .u8 97]) := by
    refine ⟨rfl, by simp, by simp, by simp [Value.oneCell'], w.heap.size, 0, rfl, by simp; omega, fun j u hu => ?_⟩
    match j with
    | 0 =>
      simp at hu
      subst hu
      rw [Addr.add_mid, cell_of_row _ _ _ _ _ _ ((Below.heap_alloc _ _ _ (by simp; omega)).trans ((Below.heap_alloc _ _ _ (by simp)).trans (heap_alloc_new w _)))]
      rfl
    | j + 1 => simp at hu
  have hconv := fun (w : World) (C : Array Value) (n c : Nat) => Go.Lib.run_convert_bytes_const (P := Try.prog) w 30 5 C n c Try.underlying30 Try.underlying5
  have hconv2 : ∀ (w : World) (o : Obj) (C : Array Value) (n c : Nat), (convert 30 30 (.slice (some ⟨w.heap.size + 1, 0, none⟩) n c)).run Try.prog ((w.alloc o).alloc (.cells C 5)) = .ok (.slice (some ⟨w.heap.size + 1, 0, none⟩) n c) ((w.alloc o).alloc (.cells C 5 (C.size, C.size + 1))) := fun w o C n c => by
    have := hconv (w.alloc o) C n c
    rwa [World.size_alloc] at this
  have HEQT : Hid (∀ W : World, (binOp .eql 47 (.agg #[.int .i64 7, .int .i64 40, .int .i64 1]) (.agg #[.int .i64 7, .int .i64 40, .int .i64 1])).run Try.prog W = .ok (.bool true) W) := fun W => by kernel_rfl
  have HEQD : Hid (∀ W : World, (binOp .eql 36 (.agg #[.int .i64 2, .int .i64 40]) (.agg #[.int .i64 2, .int .i64 40])).run Try.prog W = .ok (.bool true) W) := fun W => by kernel_rfl
  go_enter Try.func10, Try.ntmps10
  go_upto_region 2 with fail
  clear hconv hconv2
  generalize hx1 : World.alloc _ (Obj.cells _ 34) = x1
  have HLG1 : Hid (LogAt x1 ⟨some ⟨w.heap.size + 1 + 1, 0, none⟩, 2, 2⟩ [aL1, aL2 (awS w.heap.size) (awS (w.heap.size + 1))]) := by show LogAt _ _ _; rw [← hx1]; exact HLG.out
  have HBY1 : Hid (Byt x1 (awS w.heap.size) [.int .u8 97]) := by show Byt _ _ _; rw [← hx1]; exact HBY.out
  have HB1 : Hid (Below w.heap.size w x1) := by show Below _ _ _; rw [← hx1]; exact (((Below.refl _ _).alloc (Nat.le_refl _) _).alloc (by simp) _).alloc (by simp; omega) _
  clear hx1 HLG HBY
  have HSZ := hide HB1.out.size
  generalize hsw : w.heap.size = s at *
  have HSW := hide hsw
  clear hsw
  obtain ⟨lg, hlg⟩ : ∃ lg : Sv, (⟨some ⟨s + 1 + 1, 0, none⟩, 2, 2⟩ : Sv) = lg := ⟨_, rfl⟩
  have hlv : (Value.slice (some ⟨s + 1 + 1, 0, none⟩) 2 2) = .slice lg.a lg.n lg.c := by rw [← hlg]
  have HLN : Hid (lg.n = 2) := by show _ = _; rw [← hlg]
  rw [hlg] at HLG1
  rw [hlv]
  clear hlg hlv
  obtain ⟨l2, hl2⟩ : ∃ l2, aL2 (awS s) (awS (s + 1)) = l2 := ⟨_, rfl⟩
  have HL2 := hide hl2
  have hkb : l2.sb = awS s := by rw [← hl2]; rfl
  have HBY2 : Hid (Byt x1 l2.sb [.int .u8 97]) := by show Byt _ _ _; rw [hkb]; exact HBY1.out
  rw [hl2] at HLG1
  clear hl2 hkb HBY1
  have HAN := hide (analyze_any x1 lg [aL1, l2] HLG1.out (by rw [← HL2.out]; simp [aL1, aL2, Ln.zero]) (by simp)
    ⟨7, by simp [In64], by rw [← HL2.out, aw_T]; rfl⟩ ⟨2, 40, by simp [In64], by rw [← HL2.out, aw_F]; rfl⟩
    (fun ss h => by rw [← HL2.out] at h; rw [aw_vals _ _ _ h]; simp) (fun ds h => by rw [← HL2.out] at h; rw [aw_ents _ _ _ h]; simp))
  go_upto_region 4 with (first
    | (go_at_call 9; refine HAN.out.mono ?_; rintro e x2 ⟨gt, ct, ts, gd, cd, ds, rfl, hts, htx, hds, hdt, hgd, hb2⟩
       have hts' : ts = [⟨7, 40, 1⟩] := aw_ts (awS s) (awS (s + 1)) ts (by rw [HL2.out]; exact hts)
       have hds' : ds = [(2, 40)] := aw_ds (awS s) (awS (s + 1)) ds (by rw [HL2.out]; exact hds)
       subst hts'
       subst hds'
       have hC : (anaOf [aL1, l2]).C = 0 := by rw [← HL2.out]; exact aw_C _ _
       rw [hC]
       have HLG2 := hide (HLG1.out.below hb2)
       have HTX := hide htx
       have HDT := hide hdt
       have HUN := hide (undo_any (hpOne x2 x2.heap.size lg) [aL1, l2] HLG2.out (by rw [← HL2.out]; exact aw_rises _ _) (fun _ => [.int .u8 97]) (fun r hr hk => by
         simp at hr
         rcases hr with rfl | rfl
         · simp [aL1, Ln.zero] at hk
         · exact HBY2.out.below hb2) (some ⟨gt, 0, none⟩) ct [⟨7, 40, 1⟩] htx (by simp) (by omega) (by simp))
       have HB2 := hide hb2
       clear hb2 hts hds htx hdt hC)
    | (go_at_call 19; refine HUN.out.mono ?_; rintro e x3 ⟨v, O', K', rfl, hrow, hb3, hkk, hre⟩
       obtain ⟨q, hq⟩ := aw_undo (awS s) (awS (s + 1)) x2 x2.heap.size lg _ O' K' (by rw [HL2.out]; exact hre)
       subst hq
       obtain ⟨gu, cu, curu, hvu, h1, h2, h3, h4, h5, h6⟩ := own_some hrow (by simp)
       subst hvu
       have HB3 := hide hb3
       have HROW := hide hrow
       have HGU := hide (And.intro h2 h6)
       clear hrow hb3 hkk hre h1 h2 h3 h4 h5 h6))
  have hb3s := HB3.out.size
  have hgd3 : gd < x3.heap.size := by omega
  obtain ⟨bt, ot, hbt1, hbt2, hbt3⟩ := HTX.out 0 _ rfl
  injection hbt1 with hbt1
  injection hbt1 with hbt1 hot
  subst hbt1; subst hot
  have hT3 : x3.rangeAt gt 0 (txCells ⟨7, 40, 1⟩) := fun j v hv => (HB3.out.cell (p := ⟨gt, 0 + 0 * 3 + j, none⟩) hbt2).trans (hbt3 j v hv)
  have t0 : x3.cell? ⟨gt, 0, none⟩ = some (.int .i64 7) := hT3 0 _ rfl
  have t1 : x3.cell? ⟨gt, 1, none⟩ = some (.int .i64 40) := hT3 1 _ rfl
  have t2 : x3.cell? ⟨gt, 2, none⟩ = some (.int .i64 1) := hT3 2 _ rfl
  have hD3 := HDT.out.belowA HB3.out
  obtain ⟨_, _, bd, od, hbd1, hbd2, hbd3⟩ := hD3.2 0 _ rfl
  injection hbd1 with hbd1
  injection hbd1 with hbd1 hod
  subst hbd1; subst hod
  have d0 : x3.cell? ⟨gd, 0, none⟩ = some (.int .i64 2) := hbd3 0 _ rfl
  have d1 : x3.cell? ⟨gd, 1, none⟩ = some (.int .i64 40) := hbd3 1 _ rfl
  have HRE := hide (redo_nil x3 lg [aL1, l2] (some ⟨gd, 0, none⟩) [(2, 40)] cd (HLG2.out.below HB3.out) (by rw [← HL2.out]; exact aw_rises _ _) hD3 (by simp) (by simp))
  have HRL : Hid (redoOf Ask.none [(2, 40)] [aL1, l2] = [40]) := by show _ = _; rw [← HL2.out]; exact aw_redo _ _
  rw [HRL.out] at HRE
  have u0 : x3.cell? ⟨gu, 0, none⟩ = some (.int .i64 3) := by
    rw [cell_of_row _ _ _ _ _ _ HGU.out.1, ← Array.getElem?_toList]
    have : (curu.toList.take 22)[0]? = some (.int .i64 3) := by rw [show (22 : Nat) = [clrLn (aL2 (awS s) (awS (s + 1))) q, endLn 7].length * 11 from rfl, HGU.out.2]; rfl
    rwa [List.getElem?_take_of_lt (by omega)] at this
  have u3 : x3.cell? ⟨gu, 3, none⟩ = some (.int .i64 1) := by
    rw [cell_of_row _ _ _ _ _ _ HGU.out.1, ← Array.getElem?_toList]
    have : (curu.toList.take 22)[3]? = some (.int .i64 1) := by rw [show (22 : Nat) = [clrLn (aL2 (awS s) (awS (s + 1))) q, endLn 7].length * 11 from rfl, HGU.out.2]; rfl
    rwa [List.getElem?_take_of_lt (by omega)] at this
  have hgu : gu < x3.heap.size := (Array.getElem?_eq_some_iff.1 HGU.out.1).1
  have heqT := HEQT.out
  have heqD := HEQD.out
  have hNL : Hid (nextOf [aL1, l2] 7 = 40) := by show _ = _; rw [← HL2.out]; exact aw_next _ _
  clear hT3 hbt2 hbt3 hD3 hbd2 hbd3 hb3s HAN HUN
  go_wp2_with (first
    | (go_at_call 16; refine HRE.out.mono ?_; rintro e x4 ⟨v4, rfl, hrow4, hb4⟩
       obtain ⟨g4, c4, cur4, hv4, _⟩ := own_some hrow4 (by simp)
       subst hv4
       have u0' := (hb4.cell (p := ⟨gu, 0, none⟩) hgu).trans u0
       have u3' := (hb4.cell (p := ⟨gu, 3, none⟩) hgu).trans u3
       have HNX := hide (next_any lg.a 2 lg.c [aL1, l2] 7 rfl x4 ((HLG2.out.below HB3.out).lines.below hb4))
       rw [hNL.out] at HNX
       rw [← HLN.out] at HNX
       have HB4 := hide hb4
       clear hrow4 hb4 t0 t1 t2 d0 d1 u0 u3 heqT heqD)
    | (go_at_call 14; refine HNX.out.mono ?_; rintro e x5 ⟨rfl, hb5⟩; have HB5 := hide hb5; clear hb5 u0' u3'))
  go_ret
  have hs := HSZ.out
  have h2 := HB2.out.size
  have h3 := HB3.out.size
  have h4 := HB4.out.size
  refine ⟨rfl, ?_⟩
  rw [HSW.out]
  exact (((HB1.out.trans (HB2.out.mono hs)).trans (HB3.out.mono (by omega))).trans (HB4.out.mono (by omega))).trans (HB5.out.mono (by omega))
end Go.Proofs.Ytpjppolbkdnkaaa
