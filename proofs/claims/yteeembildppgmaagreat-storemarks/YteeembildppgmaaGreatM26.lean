/- A part of it: SUndo SCommit. -/
import Derived.Test.YteeembildppgmaaGreatM25
namespace Go.Proofs.YteeembildppgmaaGreat
open Go.RowKit
set_option linter.unusedVariables false
set_option linter.unusedSimpArgs false
theorem run_load69_up (w : World) (q : Nat) (a b0 b1 b2 b3 b4 b5 b6 b7 b8 b9 b10 : Value) (h : w.heap[q]? = some (.cells #[a, b0, b1, b2, b3, b4, b5, b6, b7, b8, b9, b10] 107 (0, 0))) : (Instr.loadAt 69 (.pointer (some ⟨q, 1, none⟩))).run Tryz.prog w = .ok (.agg #[b0, b1, b2, b3, b4, b5, b6, b7, b8, b9, b10]) w := by
  have := run_loadAt_mid (P := Tryz.prog) w q 1 69 [b0, b1, b2, b3, b4, b5, b6, b7, b8, b9, b10] _ (fun j v hv => by
    rw [cell_of_row w q (1 + j) _ _ _ h, Nat.add_comm 1 j]
    simpa using hv) Tryz.underlying69 rfl (Enc.Tryz.size69 (cs := #[b0, b1, b2, b3, b4, b5, b6, b7, b8, b9, b10]) rfl)
  simpa using this
theorem upsRow_take (us : List Up) (vs : List Value) (k : Nat) (hv : vs.length = us.length) (hk : k ≤ us.length) : (upsRow us vs).take (k * 12) = upsRow (us.take k) (vs.take k) := by
  unfold upsRow
  induction us generalizing vs k with
  | nil => simp
  | cons u r ih =>
    cases vs with
    | nil => simp at hv
    | cons v q =>
      cases k with
      | zero => simp
      | succ k =>
        have := ih q k (by simpa using hv) (by simpa using hk)
        simp only [List.zipWith_cons_cons, List.flatten_cons, List.take_succ_cons]
        have hl : (upCells u v).length = 12 := rfl
        rw [List.take_append, hl, ← this, List.take_of_length_le (by rw [hl]; omega)]
        congr 2
        omega
section
variable {w0 w w' : World} {s : Nat} {c : Cf} {xs tb : List Nat} {ov : Value} {ps : List Nat} {uvs : List Value} {S : St} {V : Nat → List UInt8}
theorem TxIs.drop1 {w w' : World} {tb : List Nat} {x g k cap : Nat} {T : Tn} {vs : List Value} {cur : Array Value} (t : TxIs w tb x T (.slice (some ⟨g, 0, none⟩) (k + 1) cap) vs) (hk : T.ups.length = k + 1) (hg : w.heap[g]? = some (.cells cur 107 (0, 0)))
    (hx' : w'.heap[x]? = some (.cells #[.int .i64 (T.id : Int), .int .i64 (T.begin : Int), .int .i64 (T.last : Int), .slice (some ⟨g, 0, none⟩) k cap] 75 (0, 0))) (hg' : w'.heap[g]? = some (.cells (cur.toList.take (k * 12) ++ zeroUp ++ cur.toList.drop (k * 12 + 12)).toArray 107 (0, 0)))
    (hO : ∀ q, q ∈ tb → q ≠ x → q ≠ g → w'.heap[q]? = w.heap[q]?) (hs : w.heap.size ≤ w'.heap.size) : TxIs w' tb x { T with ups := T.ups.take k } (.slice (some ⟨g, 0, none⟩) k cap) (vs.take k) := by
  have hv := t.vlen
  have hkeep : ∀ q C, q ∈ tb → w.heap[q]? = some (.cells C 5 (0, 0)) → w'.heap[q]? = w.heap[q]? := fun q C hm hC => hO q hm (fun e => by rw [e, t.head] at hC; simp at hC) (fun e => by rw [e, hg] at hC; simp at hC)
  refine ⟨hx', ?_, by simp [hv], fun j u v h1 h2 => ?_, t.inX, fun q hq => t.inU q hq⟩
  · rcases t.ups.2 with ⟨h1, h2⟩ | ⟨g', cap', cur', h1, h0, h3, h4, h5, h6, h7⟩
    · cases h1
    · injection h1 with e1 e2 e3
      injection e1 with e1
      injection e1 with e1
      subst e1; subst e3
      rw [hg] at h3
      injection h3 with h3
      injection h3 with h3
      subst h3
      have hz : zeroUp.length = 12 := rfl
      rw [hk] at h4 h7
      have h6' : cur.toList.length = cap * 12 := by simpa using h6
      have htk : cur.toList.take (k * 12) = upsRow (T.ups.take k) (vs.take k) := by
        rw [← upsRow_take T.ups vs k hv (by omega), ← h7, List.take_take]
        congr 1
        omega
      have hkl : ({ T with ups := T.ups.take k } : Tn).ups.length = k := by show (T.ups.take k).length = k; rw [List.length_take]; omega
      rw [hkl]
      refine ⟨?_, .inr ⟨g, cap, _, rfl, Nat.zero_le _, hg', by omega, h5, ?_, ?_⟩⟩
      · show (upsRow (T.ups.take k) (vs.take k)).length = _
        rw [← htk, List.length_take]
        omega
      · simp only [List.size_toArray, List.length_append, List.length_take, List.length_drop, hz, h6']
        omega
      · show _ = upsRow (T.ups.take k) (vs.take k)
        rw [← htk]
        rw [List.append_assoc, List.take_append, List.length_take, h6', List.take_of_length_le (by rw [List.length_take]; omega)]
        rw [show k * 12 - min (k * 12) (cap * 12) = 0 by omega]
        simp
  · have hj : j < k := by have := (List.getElem?_eq_some_iff.1 h1).1; simp at this; omega
    have h1 : (T.ups.take k)[j]? = some u := h1
    rw [List.getElem?_take_of_lt hj] at h1
    rw [List.getElem?_take_of_lt hj] at h2
    obtain ⟨q, cc, a1, a2, a3, a4, a5, C, a6⟩ := t.byt j u v h1 h2
    have e := hkeep q C a4 a6
    exact ⟨q, cc, a1, a2, a3, a4, a5.of hs e, C, by rw [e]; exact a6⟩
set_option maxHeartbeats 4000000 in
set_option maxRecDepth 100000 in
theorem undoNewest_ok (h : StIs w0 w s c xs tb ov ps uvs S) {i x : Nat} {T : Tn} {uv : Value} (hx : ps[i]? = some x) (hT : S.txs[i]? = some T) (hu : uvs[i]? = some uv) (k : Nat) (u : Up) (hk : T.ups.length = k + 1) (hl : T.ups[k]? = some u) (hi : PInv c.n S.pool V) (hwr : S.pool.wr + 2 ≤ 1000000)
    (hp : u.page < c.n) (hn : 1 ≤ u.after.length) (ho : u.off + u.after.length ≤ 504) (hroom : 96 + u.after.length ≤ S.R.room) (hid : T.id ≤ 1000000000000) (hla : T.last ≤ 4398046511104) (hnx : u.next ≤ 4398046511104) (hkb : k ≤ 1000000000) :
    Calls Tryz.prog 39 #[.pointer (some ⟨s, 0, none⟩), .pointer (some ⟨x, 0, none⟩)] w fun e w' => e = .returned (.int .i64 0) ∧ ∃ pl uvs',
      StIs w0 w' s c xs tb ov ps uvs' { S with pool := pl, txs := S.txs.set i { T with last := S.R.tail + 1, ups := T.ups.take k } } ∧
      PInv c.n pl (fun q => if q = u.page then patch (patch (V u.page) 0 (be8 (S.R.tail + 1))) (8 + u.off) u.after else V q) ∧ RS { S.R with held := S.R.held ++ ({ u.rc with txn := (T.id : Int), prev := (T.last : Int) } : Enc.Rc).enc } pl.fo.1 ∧ pl.wr ≤ S.pool.wr + 2 ∧ pl.fs.length = S.pool.fs.length ∧ Kept xs w w' := by
  obtain ⟨vs, t⟩ := h.tx i x T uv hx hT hu
  obtain ⟨g, cap, gv, cv, e1, e2, e3, e4, e5, e6, e7⟩ := t.upAt k u hl
  subst e1
  rw [hk] at t hu
  have x3 := t.c3
  have d0 := e7 0 (by omega)
  have d1 := e7 1 (by omega)
  have d2 := e7 2 (by omega)
  have d3 := e7 3 (by omega)
  have d4 := e7 4 (by omega)
  have d5 := e7 5 (by omega)
  have d6 := e7 6 (by omega)
  have d7 := e7 7 (by omega)
  have d8 := e7 8 (by omega)
  have d9 := e7 9 (by omega)
  have d10 := e7 10 (by omega)
  have d11 := e7 11 (by omega)
  simp only [upCells, List.getElem?_cons_zero, List.getElem?_cons_succ, Nat.add_zero] at d0 d1 d2 d3 d4 d5 d6 d7 d8 d9 d10 d11
  have hst : S.R.tail + 1 < 4611686018427387904 := by
    obtain ⟨bl, vs2, gp, D, hpx, hy⟩ := h.asRing
    have h1 := hy.rg.wf.start
    have h2 := hy.rg.wf.held
    show S.R.start + S.R.held.length + 1 < _
    omega
  have hb1 : Below w.heap.size w (w.alloc (.cells #[.int .i64 (u.lsn : Int), .int .i64 3, .int .i64 0, .int .i64 0, .int .i64 (u.next : Int), .int .i64 (u.page : Int), .int .i64 (u.off : Int), .slice none 0 0, .slice (some ⟨gv, 0, none⟩) u.after.length cv, .slice none 0 0, .slice none 0 0, .int .i64 0] 107)) := (Below.refl _ w).alloc (Nat.le_refl _) _
  have hN1 : (w.alloc (.cells #[.int .i64 (u.lsn : Int), .int .i64 3, .int .i64 0, .int .i64 0, .int .i64 (u.next : Int), .int .i64 (u.page : Int), .int .i64 (u.off : Int), .slice none 0 0, .slice (some ⟨gv, 0, none⟩) u.after.length cv, .slice none 0 0, .slice none 0 0, .int .i64 0] 107)).heap[w.heap.size]? = some (.cells #[.int .i64 (u.lsn : Int), .int .i64 3, .int .i64 0, .int .i64 0, .int .i64 (u.next : Int), .int .i64 (u.page : Int), .int .i64 (u.off : Int), .slice none 0 0, .slice (some ⟨gv, 0, none⟩) u.after.length cv, .slice none 0 0, .slice none 0 0, .int .i64 0] 107 (0, 0)) := heap_alloc_new w _
  have hsz : u.rc.size = 96 + u.after.length := by show 96 + 0 + u.after.length + 24 * 0 + 16 * 0 = _; omega
  have HWF : u.rc.wf := ⟨fun y hy => by
    simp only [Enc.Rc.head, Up.rc, List.mem_cons, List.not_mem_nil, or_false] at hy
    have := h.n8
    rcases hy with rfl | rfl | rfl | rfl | rfl | rfl <;> omega, by simp [Up.rc], by simp [Up.rc], by simp [Up.rc]⟩
  have h1 := h.mindNew (w' := w.alloc (.cells #[.int .i64 (u.lsn : Int), .int .i64 3, .int .i64 0, .int .i64 0, .int .i64 (u.next : Int), .int .i64 (u.page : Int), .int .i64 (u.off : Int), .slice none 0 0, .slice (some ⟨gv, 0, none⟩) u.after.length cv, .slice none 0 0, .slice none 0 0, .int .i64 0] 107)) (ys := w.heap.size :: xs) hb1 (fun k hk => by
    simp only [List.mem_cons] at hk
    rcases hk with e | e
    · exact .inr ⟨by omega, by rw [e]; simp⟩
    · exact .inl e)
  have HTO := hide (tellOf_ok h1 hx hT hu (rec_of_up (u := u) (e6.of hb1.size (hb1.block gv e6.1)) e3 e4) (by rw [hsz]; omega) HWF (by rw [hsz]; exact hroom) hid hla)
  have H := hide h
  have HX := hide hx
  have HT := hide hT
  have HU := hide hu
  have HTX := hide t
  have HI := hide hi
  have HWR := hide hwr
  have HB1 := hide hb1
  have HN1 := hide hN1
  have HS6 := hide e6
  have HGT := hide e5
  have hk1 : (0 : Int) ≤ (k : Int) + 1 := by omega
  have hwk : IntKind.i64.wrap ((k : Int) + 1) = (k : Int) + 1 := by rw [IntKind.wrap_i64]; omega
  have hwk2 : IntKind.i64.wrap ((k : Int) + 1 - 1) = (k : Int) := by rw [IntKind.wrap_i64]; omega
  clear h hx hT hu t hi hwr hb1 hN1 h1 e6 e7 e5 HWF hsz
  go_enter Tryz.func39, Tryz.ntmps39
  go_wp2_with fail
  refine HTO.out.mono ?_
  rintro e W2 ⟨rfl, h2, hK2, hKt⟩
  have HKT := hide hKt
  clear hKt
  clear HTO d0 d1 d2 d3 d4 d5 d6 d7 d8 d9 d10 d11 x3
  obtain ⟨N, hN⟩ : ∃ N, w.heap.size = N := ⟨_, rfl⟩
  rw [hN] at h2 hK2 HN1 HB1 ⊢
  have HNE := hide hN
  obtain ⟨L, hL⟩ : ∃ L : Nat, S.R.tail + 1 = L := ⟨_, rfl⟩
  have h2 : StIs w0 W2 s c (N :: xs) tb ov ps uvs { S.setR { S.R with held := S.R.held ++ ({ u.rc with txn := (T.id : Int), prev := (T.last : Int) } : Enc.Rc).enc } with txs := S.txs.set i { T with last := L } } := by
    have := h2
    unfold St.told at this
    rw [hL] at this
    exact this
  have HL := hide hL
  have hil := (List.getElem?_eq_some_iff.1 HT.out).1
  have hT2 : ({ S.setR { S.R with held := S.R.held ++ ({ u.rc with txn := (T.id : Int), prev := (T.last : Int) } : Enc.Rc).enc } with txs := S.txs.set i { T with last := L } } : St).txs[i]? = some { T with last := L } := List.getElem?_set_self hil
  obtain ⟨vs2, t2⟩ := h2.tx i x _ _ HX.out hT2 HU.out
  have hN2 : W2.heap[N]? = some (.cells #[.int .i64 (u.lsn : Int), .int .i64 3, .int .i64 0, .int .i64 0, .int .i64 (u.next : Int), .int .i64 (u.page : Int), .int .i64 (u.off : Int), .slice none 0 0, .slice (some ⟨gv, 0, none⟩) u.after.length cv, .slice none 0 0, .slice none 0 0, .int .i64 0] 107 (0, 0)) := (hK2.2 N (by simp)).trans HN1.out
  have x32 := t2.c3
  obtain ⟨cur, hcur, hcsz, hcap⟩ : ∃ cur, W2.heap[g]? = some (.cells cur 107 (0, 0)) ∧ cur.size = cap * 12 ∧ k + 1 ≤ cap ∧ cap ≤ maxLen := by
    rcases t2.ups.2 with ⟨h1, h2⟩ | ⟨g', cap', cur', h1, h0, h3, h4, h5, h6, h7⟩
    · cases h1
    · injection h1 with e1 e2 e3
      injection e1 with e1
      injection e1 with e1
      subst e1; subst e3
      exact ⟨cur', h3, h6, by have : T.ups.length ≤ cap := h4; omega, h5⟩
  have hgx : ¬ g = x := fun e => by rw [e, t2.head] at hcur; simp at hcur
  have hgN : ¬ g = N := fun e => h2.tbx g (t2.inU g rfl) (by rw [e]; simp)
  have hxN : ¬ x = N := fun e => h2.tbx x t2.inX (by rw [e]; simp)
  have HDL := hide (delete_last W2 g k cap cur hcur hcap.1 hcap.2 hcsz)
  obtain ⟨W3, hW3⟩ : ∃ W3, (W2.drewN 1).setRow g (cur.toList.take (k * 12) ++ zeroUp ++ cur.toList.drop (k * 12 + 12)).toArray = W3 := ⟨_, rfl⟩
  have g3 : W3.heap[g]? = some (.cells (cur.toList.take (k * 12) ++ zeroUp ++ cur.toList.drop (k * 12 + 12)).toArray 107 (0, 0)) := by rw [← hW3]; exact setRow_heap _ _ _ _ _ _ hcur
  have o3 : ∀ q, ¬ q = g → W3.heap[q]? = W2.heap[q]? := fun q hq => by rw [← hW3]; exact setRow_other _ _ _ _ hq
  have z3 : W3.heap.size = W2.heap.size := by rw [← hW3]; simp [World.setRow, World.drewN]
  have x33 : W3.cell? ⟨x, 3, none⟩ = some (.slice (some ⟨g, 0, none⟩) (k + 1) cap) := (World.cell?_of_block (a := ⟨x, 3, none⟩) (o3 x (fun e => hgx e.symm))).trans x32
  have f33 : W3.frozen? ⟨x, 3, none⟩ = false := (World.frozen?_of_block (a := ⟨x, 3, none⟩) (o3 x (fun e => hgx e.symm))).trans (t2.fz 3)
  have xh3 : W3.heap[x]? = some (.cells #[.int .i64 (T.id : Int), .int .i64 (T.begin : Int), .int .i64 (L : Int), .slice (some ⟨g, 0, none⟩) (k + 1) cap] 75 (0, 0)) := (o3 x (fun e => hgx e.symm)).trans t2.head
  have O3 : Off [x, g] W2 W3 := by
    rw [← hW3]
    exact ((Off.refl _ W2).drewN 1).setRow _ _ (.inl (by simp))
  rw [hW3] at HDL
  have H2 := hide h2
  have HK2 := hide hK2
  have HT2 := hide t2
  have HT2a := hide hT2
  have HN2 := hide hN2
  have HO3 := hide O3
  have HG3 := hide g3
  have HXH3 := hide xh3
  have HCU := hide hcur
  clear h2 hK2 t2 hT2 hN2 O3 g3 xh3 hcur o3 hW3 hL hN
  go_wp2_with (go_at_call 67; refine HDL.out.mono ?_; rintro e w' ⟨rfl, hw⟩; have hw := hw.symm; subst hw)
  have O4 : Off [x, g] W2 (W3.setCell ⟨x, 3, none⟩ (.slice (some ⟨g, 0, none⟩) k cap)) := HO3.out.setCell _ _ (.inl (by simp))
  have xh4 : (W3.setCell ⟨x, 3, none⟩ (.slice (some ⟨g, 0, none⟩) k cap)).heap[x]? = some (.cells #[.int .i64 (T.id : Int), .int .i64 (T.begin : Int), .int .i64 (L : Int), .slice (some ⟨g, 0, none⟩) k cap] 75 (0, 0)) := by
    rw [heap_setCell_same W3 x 3 _ _ _ HXH3.out]; rfl
  have g4 : (W3.setCell ⟨x, 3, none⟩ (.slice (some ⟨g, 0, none⟩) k cap)).heap[g]? = some (.cells (cur.toList.take (k * 12) ++ zeroUp ++ cur.toList.drop (k * 12 + 12)).toArray 107 (0, 0)) := (heap_setCell_other W3 _ g _ hgx).trans HG3.out
  obtain ⟨W4, hW4⟩ : ∃ W4, W3.setCell ⟨x, 3, none⟩ (.slice (some ⟨g, 0, none⟩) k cap) = W4 := ⟨_, rfl⟩
  rw [hW4] at O4 xh4 g4 ⊢
  have t4 := HT2.out.drop1 (w' := W4) (k := k) hk HCU.out xh4 g4 (fun q hq n1 n2 => O4.block q (H2.out.lts (by simp [hq])) (by simp [n1, n2])) O4.size
  have h4 := H2.out.setTx (i := i) HX.out HT2a.out HU.out O4 (fun q hq => by
    simp only [List.mem_cons, List.not_mem_nil, or_false] at hq
    rcases hq with e | e
    · exact .inl e
    · exact .inr (by rw [e]; rfl)) t4 (fun q hq => hq) (fun q hq => .inl hq) (fun q hq => .inl hq) (fun q hq => ⟨cur, by injection hq with hq; rw [← hq]; exact HCU.out⟩)
  have hN4 : W4.heap[N]? = some (.cells #[.int .i64 (u.lsn : Int), .int .i64 3, .int .i64 0, .int .i64 0, .int .i64 (u.next : Int), .int .i64 (u.page : Int), .int .i64 (u.off : Int), .slice none 0 0, .slice (some ⟨gv, 0, none⟩) u.after.length cv, .slice none 0 0, .slice none 0 0, .int .i64 0] 107 (0, 0)) := (O4.block N (H2.out.lt (by simp)) (by simp only [List.mem_cons, List.not_mem_nil, or_false]; rintro (e | e); exact hxN e.symm; exact hgN e.symm)).trans HN2.out
  have x24 : W4.cell? ⟨x, 2, none⟩ = some (.int .i64 (L : Int)) := by rw [cell_of_row _ x 2 _ _ _ xh4]; rfl
  have HXT : Hid (x ∈ tb) := HT2.out.inX
  have hgv4 : SrcAt W4 gv 0 u.after := by
    obtain ⟨q, cc, a1, a2, a3, a4, a5, C, a6⟩ := HTX.out.byt k u _ hl e2
    injection a1 with a1
    injection a1 with a1
    injection a1 with a1
    subst a1
    have nx : ¬ gv = x := fun e => by rw [e, HTX.out.head] at a6; simp at a6
    have b1 : (w.alloc (.cells #[.int .i64 (u.lsn : Int), .int .i64 3, .int .i64 0, .int .i64 0, .int .i64 (u.next : Int), .int .i64 (u.page : Int), .int .i64 (u.off : Int), .slice none 0 0, .slice (some ⟨gv, 0, none⟩) u.after.length cv, .slice none 0 0, .slice none 0 0, .int .i64 0] 107)).heap[gv]? = w.heap[gv]? := HB1.out.block gv (by have := (Array.getElem?_eq_some_iff.1 a6).1; have := HNE.out; omega)
    have b2 : W2.heap[gv]? = w.heap[gv]? := (HKT.out gv a4 nx).trans b1
    have ng : ¬ gv = g := fun e => by have := HCU.out; rw [← e, b2, a6] at this; simp at this
    have b4 : W4.heap[gv]? = w.heap[gv]? := (O4.block gv ((Array.getElem?_eq_some_iff.1 (b2.trans a6)).1) (by simp [nx, ng])).trans b2
    exact HS6.out.of (by rw [HNE.out]; exact Nat.le_trans (Nat.le_of_lt (Array.getElem?_eq_some_iff.1 hN4).1) (Nat.le_refl _)) b4
  have hkx : Kept xs w W4 := ⟨by rw [HNE.out]; exact Nat.le_of_lt (Array.getElem?_eq_some_iff.1 hN4).1, fun q hq => (O4.block q (H2.out.lt (by simp [hq])) (by
      simp only [List.mem_cons, List.not_mem_nil, or_false]
      rintro (e | e)
      · exact H2.out.tbx x HT2.out.inX (by simp [← e, hq])
      · exact H2.out.tbx g (HT2.out.inU g rfl) (by simp [← e, hq]))).trans ((HK2.out.2 q (by simp [hq])).trans (HB1.out.block q (by have := H.out.lt hq; have := HNE.out; omega)))⟩
  have hby : ByteSrc w0 W4 (tb ++ (N :: xs)) gv 0 cv u.after := ⟨e3, by simp only [maxLen]; omega, .inl (by simp [HGT.out]), fun j v hv => by
    have := hgv4.2 j v hv
    rwa [Addr.add_mid] at this⟩
  have HI2 := hide (HI.out.setR { S.R with held := S.R.held ++ ({ u.rc with txn := (T.id : Int), prev := (T.last : Int) } : Enc.Rc).enc })
  have HCH := hide (fun d => change_ok (V := V) (h4.belowW (below_drewN _ W4 d)) HI2.out (by have := HWR.out; show S.pool.wr ≤ _; omega) 3 0 0 (u.next : Int) 0 none 0 0 gv 0 cv u.after (hby.belowW h4.below (below_drewN _ W4 d) (fun q hq => h4.lts (by simp only [List.mem_cons]; exact .inr hq))) u.page u.off L hp hn ho (by have := HL.out; omega) (by have := HL.out; omega) (by have h1 := (HI2.out.get (c := c) u.page hp).2.2.wr; have := HWR.out; exact Nat.le_trans h1 (by show S.pool.wr + 1 ≤ 1000000; omega)))
  have HKX := hide hkx
  clear h4 O4 t4 xh4 g4 hW4 hgv4 hkx hby HDL x33 f33
  go_wp2_with fail
  refine wp_region_held_drew (S := fun w' => w'.heap[N]? = some (.cells #[.int .i64 (u.lsn : Int), .int .i64 3, .int .i64 0, .int .i64 0, .int .i64 (u.next : Int), .int .i64 (u.page : Int), .int .i64 (u.off : Int), .slice none 0 0, .slice (some ⟨gv, 0, none⟩) u.after.length cv, .slice none 0 0, .slice none 0 0, .int .i64 0] 107 (0, 0)) ∧ w'.cell? ⟨x, 2, none⟩ = some (.int .i64 (L : Int))) (by kernel_rfl) ⟨hN4, x24⟩ (fun hH => ?_)
  refine take_to 0 40 (.pointer (some ⟨s, 0, none⟩)) rfl (by kernel_rfl) (by kernel_rfl) (by kernel_rfl) (fun _ _ _ h => h) rfl (by rfl) (fun w hw => by rfl) hH ?_
  simp only [Act.put, List.setIfInBounds_toArray, List.set_cons_zero, List.set_cons_succ]
  refine take_to 1 41 (.pointer (some ⟨N, 1, none⟩)) rfl (by kernel_rfl) (by kernel_rfl) (by kernel_rfl) (fun _ _ _ h => h) rfl (by rfl) (fun w hw => by rfl) hH ?_
  simp only [Act.put, List.setIfInBounds_toArray, List.set_cons_zero, List.set_cons_succ]
  refine take_to 2 42 (.agg #[.int .i64 3, .int .i64 0, .int .i64 0, .int .i64 (u.next : Int), .int .i64 (u.page : Int), .int .i64 (u.off : Int), .slice none 0 0, .slice (some ⟨gv, 0, none⟩) u.after.length cv, .slice none 0 0, .slice none 0 0, .int .i64 0]) rfl (by kernel_rfl) (by kernel_rfl) (by kernel_rfl) (fun _ _ _ h => h) rfl (by rfl) (fun w hw => op_load _ _ 69 (.tmp 41) rfl (.pointer (some ⟨N, 1, none⟩)) _ rfl (run_load69_up w N _ _ _ _ _ _ _ _ _ _ _ _ hw.1)) hH ?_
  simp only [Act.put, List.setIfInBounds_toArray, List.set_cons_zero, List.set_cons_succ]
  refine take_to 3 43 (.pointer (some ⟨x, 0, none⟩)) rfl (by kernel_rfl) (by kernel_rfl) (by kernel_rfl) (fun _ _ _ h => h) rfl (by rfl) (fun w hw => by rfl) hH ?_
  simp only [Act.put, List.setIfInBounds_toArray, List.set_cons_zero, List.set_cons_succ]
  refine take_to 4 44 (.pointer (some ⟨x, 0, none⟩)) rfl (by kernel_rfl) (by kernel_rfl) (by kernel_rfl) (fun _ _ _ h => h) rfl (by rfl) (fun w hw => by rfl) hH ?_
  simp only [Act.put, List.setIfInBounds_toArray, List.set_cons_zero, List.set_cons_succ]
  refine take_to 5 45 (.pointer (some ⟨x, 2, none⟩)) rfl (by kernel_rfl) (by kernel_rfl) (by kernel_rfl) (fun _ _ _ h => h) rfl (by rfl) (fun w hw => by rfl) hH ?_
  simp only [Act.put, List.setIfInBounds_toArray, List.set_cons_zero, List.set_cons_succ]
  refine take_to 6 46 (.int .i64 (L : Int)) rfl (by kernel_rfl) (by kernel_rfl) (by kernel_rfl) (fun _ _ _ h => h) rfl (by rfl) (fun w hw => op_load _ _ 3 (.tmp 45) rfl (.pointer (some ⟨x, 2, none⟩)) _ rfl (run_loadAny w x 2 3 _ Tryz.isAgg3 hw.2)) hH ?_
  simp only [Act.put, List.setIfInBounds_toArray, List.set_cons_zero, List.set_cons_succ]
  refine step_call3_to 7 47 63 rfl (by kernel_rfl) rfl (by rfl) (.tmp 40) (.tmp 42) (.tmp 46) _ rfl _ _ _ rfl rfl rfl Tryz.enters63 (HCH.out 1) ?_
  rintro e W5 ⟨rfl, pl, h5, hI5, hR5, hw5, hl5, hK5⟩
  have hS5 : W5.heap[N]? = some (.cells #[.int .i64 (u.lsn : Int), .int .i64 3, .int .i64 0, .int .i64 0, .int .i64 (u.next : Int), .int .i64 (u.page : Int), .int .i64 (u.off : Int), .slice none 0 0, .slice (some ⟨gv, 0, none⟩) u.after.length cv, .slice none 0 0, .slice none 0 0, .int .i64 0] 107 (0, 0)) ∧ W5.cell? ⟨x, 2, none⟩ = some (.int .i64 (L : Int)) := ⟨(hK5.2 N (by simp)).trans hN4, (World.cell?_of_block (a := ⟨x, 2, none⟩) (hK5.2 x (by simp [HXT.out]))).trans x24⟩
  refine ⟨_, rfl, hS5, ?_⟩
  simp only [Act.put, List.setIfInBounds_toArray, List.set_cons_zero, List.set_cons_succ]
  refine step_to 8 4 (.int .i64 0) W5 rfl (by kernel_rfl) rfl (by rfl) (rfl) hS5 ?_
  simp only [Act.put, List.setIfInBounds_toArray, List.set_cons_zero, List.set_cons_succ]
  refine wpAnyH_done (by kernel_rfl) ?_ _
  go_wp2
  go_ret
  refine ⟨rfl, pl, uvs.set i (.slice (some ⟨g, 0, none⟩) k cap), ?_, ?_, ?_, hw5, hl5, ?_⟩
  rotate_left
  · rw [HL.out]; exact hI5
  · exact hR5
  · exact HKX.out.trans ⟨hK5.1, fun q hq => hK5.2 q (by simp [hq])⟩
  · have := (h5.mind (ys := xs) (fun k hk => by simp [hk]))
    rw [HL.out]
    simp only [List.set_set] at this
    exact this
end
end Go.Proofs.YteeembildppgmaaGreat
namespace Go.Proofs.YteeembildppgmaaGreat
open Go.RowKit
set_option linter.unusedVariables false
set_option linter.unusedSimpArgs false
def bareRc (k : Int) : Enc.Rc := ⟨k, 0, 0, 0, 0, 0, [], [], [], [], 0⟩
theorem rec_bare (W : World) (k : Int) : Enc.RecVal W (.agg #[.int .i64 k, .int .i64 0, .int .i64 0, .int .i64 0, .int .i64 0, .int .i64 0, .slice none 0 0, .slice none 0 0, .slice none 0 0, .slice none 0 0, .int .i64 0]) (bareRc k) :=
  ⟨_, _, _, _, rfl, Enc.Row.nil W, Enc.Row.nil W, Enc.Row.nil W, Enc.Row.nil W⟩
theorem wf_bare (k : Int) (h0 : 0 ≤ k) (h1 : k ≤ 100) : (bareRc k).wf := ⟨fun y hy => by
    simp only [Enc.Rc.head, bareRc, List.mem_cons, List.not_mem_nil, or_false] at hy
    rcases hy with rfl | rfl | rfl | rfl | rfl | rfl <;> omega, by simp [bareRc], by simp [bareRc], by simp [bareRc]⟩
section
variable {w0 w w' : World} {s : Nat} {c : Cf} {xs tb : List Nat} {ov : Value} {ps : List Nat} {uvs : List Value} {S : St} {V : Nat → List UInt8}
theorem tellBare_ok (h : StIs w0 w s c xs tb ov ps uvs S) {i x : Nat} {T : Tn} {uv : Value} (hx : ps[i]? = some x) (hT : S.txs[i]? = some T) (hu : uvs[i]? = some uv) (k : Int) (h0 : 0 ≤ k) (h1 : k ≤ 100) (hroom : 96 ≤ S.R.room) (hid : T.id ≤ 1000000000000) (hla : T.last ≤ 4398046511104) :
    Calls Tryz.prog 40 #[.pointer (some ⟨s, 0, none⟩), .pointer (some ⟨x, 0, none⟩), .agg #[.int .i64 k, .int .i64 0, .int .i64 0, .int .i64 0, .int .i64 0, .int .i64 0, .slice none 0 0, .slice none 0 0, .slice none 0 0, .slice none 0 0, .int .i64 0]] w fun e w' => e = .returned (.int .i64 0) ∧
      StIs w0 w' s c xs tb ov ps uvs (S.told i T (bareRc k)) ∧ Kept xs w w' ∧ ∀ k ∈ tb, ¬ k = x → w'.heap[k]? = w.heap[k]? :=
  tellOf_ok h hx hT hu (rec_bare w k) (by show 96 + 0 + 0 + 24 * 0 + 16 * 0 ≤ _; omega) (wf_bare k h0 h1) (by show 96 + 0 + 0 + 24 * 0 + 16 * 0 ≤ _; omega) hid hla
theorem StIs.emptied {g cap : Nat} {cur : Array Value} (h : StIs w0 w s c xs tb (.slice (some ⟨g, 0, none⟩) 1 cap) ps uvs S) (hO : Off [s, g] w w') (hr : w'.heap[s]? = some (.cells (stCells c { S with txs := [] } (.slice (some ⟨g, 0, none⟩) 0 cap)) 65 (0, 0)))
    (hg : w'.heap[g]? = some (.cells cur 72 (0, 0))) (hc : cur.size = cap) (hm : cap ≤ maxLen) : StIs w0 w' s c xs tb (.slice (some ⟨g, 0, none⟩) 0 cap) [] [] { S with txs := [] } :=
  have hgt : g ∈ tb := h.inO g rfl
  { pool := h.pool.writeL (fun k hk => by
      simp only [List.mem_cons, List.not_mem_nil, or_false] at hk
      rcases hk with e | e
      · rw [e]; exact ⟨by simp, h.s0⟩
      · rw [e]; exact ⟨by simp [hgt], h.t0 g hgt⟩) hO
    head := hr
    own := ⟨rfl, .inr ⟨g, cap, cur, rfl, Nat.zero_le _, hg, Nat.zero_le _, hm, by omega, by simp [ptrs]⟩⟩
    plen := rfl
    ulen := rfl
    tx := fun i x T uv a b d => by simp at a
    nodup := fun i j x a b => by simp at a
    udis := fun i j u v k a b d e => by simp at a
    s0 := h.s0
    t0 := h.t0
    sx := h.sx
    tbx := h.tbx
    inO := fun k hk => by injection hk with hk; rw [← hk]; exact hgt
    few := by show 0 ≤ 1000; omega
    lg2 := h.lg2
    n8 := h.n8 }
set_option maxHeartbeats 2000000 in
set_option maxRecDepth 100000 in
theorem end_one (h : StIs w0 w s c xs tb ov ps uvs S) (h1 : S.txs.length = 1) {x : Nat} {T : Tn} {uv : Value} (hx : ps[0]? = some x) (hT : S.txs[0]? = some T) (hu : uvs[0]? = some uv) (hroom : 96 ≤ S.R.room) (hid : T.id ≤ 1000000000000) (hla : T.last ≤ 4398046511104) :
    Calls Tryz.prog 42 #[.pointer (some ⟨s, 0, none⟩), .pointer (some ⟨x, 0, none⟩)] w fun e w' => e = .returned (.int .i64 0) ∧
      StAt w0 w' s c xs { S.setR { S.R with held := S.R.held ++ ({ bareRc 6 with txn := (T.id : Int), prev := (T.last : Int) } : Enc.Rc).enc } with txs := [] } ∧ Kept xs w w' := by
  have hb1 : Below w.heap.size w (w.alloc (.cells #[.pointer (some ⟨x, 0, none⟩)] 72)) := (Below.refl _ w).alloc (Nat.le_refl _) _
  have hN1 : (w.alloc (.cells #[.pointer (some ⟨x, 0, none⟩)] 72)).heap[w.heap.size]? = some (.cells #[.pointer (some ⟨x, 0, none⟩)] 72 (0, 0)) := heap_alloc_new w _
  have hq := h.mindNew (w' := w.alloc (.cells #[.pointer (some ⟨x, 0, none⟩)] 72)) (ys := w.heap.size :: xs) hb1 (fun k hk => by
    simp only [List.mem_cons] at hk
    rcases hk with e | e
    · exact .inr ⟨by omega, by rw [e]; simp⟩
    · exact .inl e)
  have HTO := hide (tellBare_ok hq hx hT hu 6 (by omega) (by omega) hroom hid hla)
  have H := hide h
  have HX := hide hx
  have HT := hide hT
  have HU := hide hu
  have HB1 := hide hb1
  have HN1 := hide hN1
  have H1 := hide h1
  clear h hx hT hu hb1 hN1 hq h1
  go_enter Tryz.func42, Tryz.ntmps42
  go_wp2_with fail
  refine HTO.out.mono ?_
  rintro e W2 ⟨rfl, h2, hK2, hKt⟩
  clear HTO
  obtain ⟨N, hN⟩ : ∃ N, w.heap.size = N := ⟨_, rfl⟩
  rw [hN] at h2 hK2 HN1 HB1 ⊢
  have HNE := hide hN
  obtain ⟨g, y, uv', vs, cap, hov, hy, hu2, t2, hcell⟩ := h2.txAt 0 _ (by show (S.txs.set 0 _)[0]? = some _; exact List.getElem?_set_self (by rw [H1.out]; omega))
  rw [HX.out] at hy
  cases hy
  have hl2 : (S.told 0 T (bareRc 6)).txs.length = 1 := by show (S.txs.set 0 _).length = 1; rw [List.length_set]; exact H1.out
  rw [hl2] at hov
  subst hov
  obtain ⟨cur, hcur, hcsz, hcap1, hcap2⟩ : ∃ cur, W2.heap[g]? = some (.cells cur 72 (0, 0)) ∧ cur.size = cap ∧ 1 ≤ cap ∧ cap ≤ maxLen := by
    rcases h2.own.2 with ⟨e1, e2⟩ | ⟨g', cap', cur', e1, e0, e3, e4, e5, e6, e7⟩
    · cases e1
    · injection e1 with f1 f2 f3
      injection f1 with f1
      injection f1 with f1
      subst f1; subst f3
      exact ⟨cur', e3, by omega, by rw [hl2] at e4; omega, e5⟩
  have hN2 : W2.heap[N]? = some (.cells #[.pointer (some ⟨x, 0, none⟩)] 72 (0, 0)) := (hK2.2 N (by simp)).trans HN1.out
  have hB2 : W2.cell? ⟨N, 0, none⟩ = some (.pointer (some ⟨x, 0, none⟩)) := by rw [cell_of_row _ N 0 _ _ _ hN2]; rfl
  have hgs : ¬ g = s := fun e => h2.sx (by rw [← e]; simp [h2.inO g rfl])
  have HDO := hide (deleteOne W2 g cap x N hcell hB2 (frozen_of_row W2 g 0 _ _ hcur) hcap1 hcap2)
  have c4 := h2.c4
  obtain ⟨W3, hW3⟩ : ∃ W3, W2.setCell ⟨g, 0, none⟩ (.pointer none) = W3 := ⟨_, rfl⟩
  have o3 : ∀ q, ¬ q = g → W3.heap[q]? = W2.heap[q]? := fun q hq => by rw [← hW3]; exact heap_setCell_other W2 _ q _ hq
  have g3 : ∃ cur', W3.heap[g]? = some (.cells cur' 72 (0, 0)) ∧ cur'.size = cap := by
    rw [← hW3]
    exact ⟨_, heap_setCell_same W2 g 0 _ _ _ hcur, by simp [hcsz]⟩
  have s3 : W3.heap[s]? = some (.cells (stCells c (S.told 0 T (bareRc 6)) (.slice (some ⟨g, 0, none⟩) 1 cap)) 65 (0, 0)) := (o3 s (fun e => hgs e.symm)).trans h2.head
  have c43 : W3.cell? ⟨s, 4, none⟩ = some (.slice (some ⟨g, 0, none⟩) 1 cap) := by rw [cell_of_row _ s 4 _ _ _ s3]; rfl
  have f43 : W3.frozen? ⟨s, 4, none⟩ = false := frozen_of_row W3 s 4 _ _ s3
  have O3 : Off [s, g] W2 W3 := by rw [← hW3]; exact (Off.refl _ W2).setCell _ _ (.inl (by simp))
  rw [hW3] at HDO
  have H2 := hide h2
  have HK2 := hide hK2
  have HO3 := hide O3
  have HG3 := hide g3
  have HS3 := hide s3
  have HT2 := hide t2
  clear h2 hK2 hKt O3 g3 s3 t2 hW3 o3 hcell hN2 hcur hN hu2
  go_wp2_with (go_at_call 69; refine HDO.out.mono ?_; rintro e w' ⟨rfl, hw⟩; have hw := hw.symm; subst hw)
  go_ret
  obtain ⟨cur', hc1, hc2⟩ := HG3.out
  have hgt : g ∈ tb := H2.out.inO g rfl
  have O4 : Off [s, g] W2 (W3.setCell ⟨s, 4, none⟩ (.slice (some ⟨g, 0, none⟩) 0 cap)) := HO3.out.setCell _ _ (.inl (by simp))
  refine ⟨rfl, ?_, ?_⟩
  · have := H2.out.emptied O4 (by rw [heap_setCell_same W3 s 4 _ _ _ HS3.out]; rfl) ((heap_setCell_other W3 _ g _ hgs).trans hc1) hc2 hcap2
    exact (this.mind (ys := xs) (fun k hk => by simp [hk])).at
  · refine ⟨by rw [HNE.out]; exact Nat.le_trans (Nat.le_of_lt (by have := (Array.getElem?_eq_some_iff.1 HN1.out).1; exact Nat.lt_of_lt_of_le this HK2.out.1)) O4.size, fun k hk => (O4.block k (H2.out.lt (by simp [hk])) (by
      simp only [List.mem_cons, List.not_mem_nil, or_false]
      rintro (e | e)
      · exact H.out.sx (by rw [← e]; simp [hk])
      · exact H.out.tbx g hgt (by rw [← e]; exact hk))).trans ((HK2.out.2 k (by simp [hk])).trans (HB1.out.block k (by have := H.out.lt hk; have := HNE.out; omega)))⟩
set_option maxHeartbeats 1000000 in
theorem save_ok (h : StIs w0 w s c xs tb ov ps uvs S) {i x : Nat} {T : Tn} {uv : Value} (hx : ps[i]? = some x) (hT : S.txs[i]? = some T) (hu : uvs[i]? = some uv) (hno : ∀ (j : Nat) U, j < i → S.txs[j]? = some U → U.id ≠ T.id) (n : Int) (hn : n = (T.id : Int)) :
    Calls Tryz.prog 11 #[.pointer (some ⟨s, 0, none⟩), .int .i64 n] w fun e w' => e = .returned (.tuple #[.int .i64 (T.last : Int), .int .i64 0]) ∧ w' = w := by
  obtain ⟨vs, t⟩ := h.tx i x T uv hx hT hu
  have x2 := t.c2
  have HF := hide (sfind_ok h hx hT hno n hn)
  clear h hx hT hu hno hn t
  go_enter Tryz.func11, Tryz.ntmps11
  go_wp2_with (go_at_call 31; refine HF.out.mono ?_; rintro e w' ⟨rfl, hw⟩; have hw := hw.symm; subst hw)
  go_ret2
  exact ⟨rfl, rfl⟩
theorem len_bare (k : Int) (a b : Int) : ({ bareRc k with txn := a, prev := b } : Enc.Rc).enc.length = 96 := by rw [Enc.length_enc]; rfl
theorem Rg.room_more (R : Rg) (l : List UInt8) : ({ R with held := R.held ++ l } : Rg).room = R.room - l.length := by
  show (R.start / 118 + R.n - 1) * 118 - (R.start + (R.held ++ l).length) = (R.start / 118 + R.n - 1) * 118 - (R.start + R.held.length) - l.length
  rw [List.length_append]
  omega
theorem Rg.tail_more (R : Rg) (l : List UInt8) : ({ R with held := R.held ++ l } : Rg).tail = R.tail + l.length := by
  show R.start + (R.held ++ l).length = R.start + R.held.length + l.length
  rw [List.length_append]
  omega
set_option maxHeartbeats 2000000 in
set_option maxRecDepth 100000 in
theorem commit_one (h : StIs w0 w s c xs tb ov ps uvs S) (h1 : S.txs.length = 1) {T : Tn} (hT : S.txs[0]? = some T) (hroom : 192 ≤ S.R.room) (hid : T.id ≤ 1000000000000) (hla : T.last ≤ 4398046511104) (hta : S.R.tail < 4398046511104) (hcm : S.commits ≤ 1000000000000) (n : Int) (hn : n = (T.id : Int)) :
    Calls Tryz.prog 15 #[.pointer (some ⟨s, 0, none⟩), .int .i64 n] w fun e w' => e = .returned (.int .i64 0) ∧ ∃ R', RS { S.R with held := S.R.held ++ ({ bareRc 4 with txn := (T.id : Int), prev := (T.last : Int) } : Enc.Rc).enc ++ ({ bareRc 6 with txn := (T.id : Int), prev := ((S.R.tail + 1 : Nat) : Int) } : Enc.Rc).enc } R' ∧
      StAt w0 w' s c xs { S.setR R' with txs := [], commits := S.commits + 1 } ∧ Kept xs w w' := by
  obtain ⟨g, x, uv, vs, cc, hov, hx, hu, t, hcell⟩ := h.txAt 0 T hT
  have HF := hide (sfind_ok h hx hT (fun j U hj => by omega) n hn)
  have HTO := hide (tellBare_ok h hx hT hu 4 (by omega) (by omega) (by omega) hid hla)
  have H := hide h
  have HX := hide hx
  have HT := hide hT
  have HU := hide hu
  have H1 := hide h1
  have HRM := hide hroom
  clear h hx hT hu h1 hroom hcell t hov hn
  go_enter Tryz.func15, Tryz.ntmps15
  go_wp2_with (first
    | (go_at_call 31; refine HF.out.mono ?_; rintro e w' ⟨rfl, hw⟩; have hw := hw.symm; subst hw)
    | fail)
  refine HTO.out.mono ?_
  rintro e W2 ⟨rfl, h2, hK2, -⟩
  have c6 : W2.cell? ⟨s, 6, none⟩ = some (.int .i64 (S.commits : Int)) := by rw [cell_of_row W2 s 6 _ _ _ h2.head]; rfl
  have f6 := h2.fz 6
  have hwc : IntKind.i64.wrap ((S.commits : Int) + 1) = (S.commits : Int) + 1 := by rw [IntKind.wrap_i64]; omega
  have h3 := h2.setS (w' := W2.setCell ⟨s, 6, none⟩ (.int .i64 ((S.commits : Int) + 1))) (S' := { S.told 0 T (bareRc 4) with commits := S.commits + 1 }) rfl rfl ((Off.refl _ W2).setCell _ _ (by simp)) (by rw [heap_setCell_same W2 s 6 _ _ _ h2.head]; rfl)
  have HFL := hide (sflush_ok h3)
  have HK2 := hide hK2
  have H2 := hide h2
  clear h2 h3 hK2 HTO HF
  go_wp2_with (first
    | (go_at_call 41; refine HFL.out.mono ?_; rintro e W4 ⟨rfl, h4, hK4⟩
       have HE := hide (end_one (x := x) (T := { T with last := S.R.tail + 1 }) (uv := uv) h4 (by show (S.txs.set 0 _).length = 1; rw [List.length_set]; exact H1.out) HX.out (by show (S.txs.set 0 _)[0]? = some _; exact List.getElem?_set_self (by rw [H1.out]; omega)) HU.out (by
         show 96 ≤ Rg.room { S.R with held := S.R.held ++ _ }
         rw [Rg.room_more, len_bare]
         have := HRM.out
         omega) hid (by show S.R.tail + 1 ≤ _; omega))
       have HK4 := hide hK4
       clear h4 hK4)
    | (go_at_call 42; refine HE.out.mono ?_; rintro e W5 ⟨rfl, h5, hK5⟩; have H5 := hide h5; have HK5 := hide hK5; clear h5 hK5))
  go_ret
  refine ⟨rfl, _, ⟨S.R.tail + 96, rfl⟩, ?_, ?_⟩
  · have h6 := H5.out
    have e : (St.R { S.told 0 T (bareRc 4) with commits := S.commits + 1 }).tail = S.R.tail + 96 := by
      show Rg.tail { S.R with held := S.R.held ++ _ } = _
      rw [Rg.tail_more, len_bare]
    rw [e] at h6
    exact h6
  · exact HK2.out.trans (Kept.trans ⟨by simp, fun k hk => heap_setCell_other W2 _ k _ (fun e => H.out.sx (by have e : k = s := e; rw [← e]; simp [hk]))⟩ ((HK4.out.mono (fun k hk => by simp [hk])).trans HK5.out))
end
end Go.Proofs.YteeembildppgmaaGreat
