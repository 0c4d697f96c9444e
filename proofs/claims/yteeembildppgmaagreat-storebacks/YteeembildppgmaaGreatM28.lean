/- A part of it: SIdx SBkA SAre SNum. -/
import Derived.Test.YteeembildppgmaaGreatM26
import Derived.Test.YteeembildppgmaaGreatM27
import Derived.Test.YteeembildppgmaaGreatM25
namespace Go.Proofs.YteeembildppgmaaGreat
open Go.RowKit
set_option linter.unusedVariables false
set_option linter.unusedSimpArgs false
theorem len_lineCells (n : Nat) (R : Enc.Rc) (q : Quad) : (lineCells n R q).length = 12 := rfl
theorem linesRow_get : ∀ (rs : List Enc.Rc) (qs : List Quad) (st j : Nat) (R : Enc.Rc) (q : Quad) (k : Nat), qs.length = rs.length → rs[j]? = some R → qs[j]? = some q → k < 12 → (linesRow st rs qs)[j * 12 + k]? = (lineCells (st + (encs (rs.take j)).length + 1) R q)[k]?
 | [], _, _, j, _, _, _, _, h, _, _ => by simp at h
 | _ :: _, [], _, _, _, _, _, h, _, _, _ => by simp at h
 | R' :: rs, q' :: qs, st, 0, R, q, k, hl, hR, hq, hk => by
   simp at hR hq
   subst hR hq
   show (lineCells (st + 1) R' q' ++ linesRow (st + R'.size) rs qs)[0 * 12 + k]? = (lineCells (st + 0 + 1) R' q')[k]?
   rw [Nat.zero_mul, Nat.zero_add, List.getElem?_append_left (by rw [len_lineCells]; exact hk)]
 | R' :: rs, q' :: qs, st, j + 1, R, q, k, hl, hR, hq, hk => by
   show (lineCells (st + 1) R' q' ++ linesRow (st + R'.size) rs qs)[(j + 1) * 12 + k]? = _
   rw [List.getElem?_append_right (by rw [len_lineCells]; omega), len_lineCells, show (j + 1) * 12 + k - 12 = j * 12 + k by omega]
   rw [linesRow_get rs qs (st + R'.size) j R q k (by simpa using hl) (by simpa using hR) (by simpa using hq) hk]
   rw [show (R' :: rs).take (j + 1) = R' :: rs.take j from rfl, encs_cons, List.length_append, Enc.length_enc]
   congr 2
   omega
theorem LinesAt.line {w : World} {base st : Nat} {l : Value} {rs : List Enc.Rc} (h : LinesAt w base l st rs) (h0 : 0 < rs.length) : ∃ g cap, l = .slice (some ⟨g, 0, none⟩) rs.length cap ∧ g < w.heap.size ∧ ∀ (j : Nat) (R : Enc.Rc), rs[j]? = some R →
 ∃ v1 v3 v4 v5 v6 v7 v8 v9 v10 v11, w.rangeAt g (j * 12) [.int .i64 ((st + (encs (rs.take j)).length + 1 : Nat) : Int), v1, .int .i64 R.txn, v3, v4, v5, v6, v7, v8, v9, v10, v11] := by
 obtain ⟨qs, hq, ho, hr⟩ := h.is
 rcases ho.2 with ⟨_, e⟩ | ⟨g, cap, cur, rfl, _, hg, _, _, _, htk⟩
 · omega
 · refine ⟨g, cap, rfl, (Array.getElem?_eq_some_iff.1 hg).1, fun j R hR => ?_⟩
   have hj : j < rs.length := (List.getElem?_eq_some_iff.1 hR).1
   obtain ⟨q, hqj⟩ : ∃ q, qs[j]? = some q := ⟨_, List.getElem?_eq_getElem (by omega)⟩
   refine ⟨.int .i64 R.kind, .int .i64 R.prev, .int .i64 R.next, .int .i64 R.page, .int .i64 R.off, q.1, q.2.1, q.2.2.1, q.2.2.2, .int .i64 R.count, fun k v hv => ?_⟩
   have hk : k < 12 := by
    have := (List.getElem?_eq_some_iff.1 hv).1
    simpa using this
   rw [cell_of_row w g _ _ _ _ hg]
   have h1 := linesRow_get rs qs st j R q k hq hR hqj hk
   rw [← htk, List.getElem?_take_of_lt (by omega)] at h1
   have h2 : cur[j * 12 + k]? = (lineCells (st + (encs (rs.take j)).length + 1) R q)[k]? := by simpa using h1
   rw [h2]
   exact hv
theorem Tryz.size88n : (Tryz.prog.info? 88).map (·.size) = some 12 := by kernel_rfl
set_option maxHeartbeats 1000000 in
set_option maxRecDepth 100000 in
theorem indexL (w : World) (g N cap bm bx x j0 : Nat) (mark id : Int) (y1 y2 y3 : Value) (hm : w.heap[bm]? = some (.cells #[.int .i64 mark] 3 (0, 0))) (hb : w.heap[bx]? = some (.cells #[.pointer (some ⟨x, 0, none⟩)] 72 (0, 0))) (hx : w.heap[x]? = some (.cells #[.int .i64 id, y1, y2, y3] 75 (0, 0)))
 (hg : g < w.heap.size) (hl : ∀ j, j ≤ j0 → ∃ (lsn txn : Int) (v1 v3 v4 v5 v6 v7 v8 v9 v10 v11 : Value), w.rangeAt g (j * 12) [.int .i64 lsn, v1, .int .i64 txn, v3, v4, v5, v6, v7, v8, v9, v10, v11] ∧ (j = j0 → lsn = mark ∧ txn = id)) (h0 : j0 < N) (hn : N ≤ 1000000000) :
 Calls Tryz.prog 98 #[.slice (some ⟨g, 0, none⟩) N cap, .func (.func 66) #[] #[.pointer (some ⟨bm, 0, none⟩), .pointer (some ⟨bx, 0, none⟩)]] w fun e w' => (∃ k : Nat, e = .returned (.int .i64 (k : Int))) ∧ Below w.heap.size w w' := by
 have HL := hide hl
 have HM := hide (And.intro hm (And.intro hb hx))
 clear hl hm hb hx
 go_enter Tryz.func98, Tryz.ntmps98
 go_wp2
 go_loopw [8, 5] (fun i _ wr => ∃ k : Nat, k ≤ j0 ∧ i = .int .i64 (k : Int) ∧ Hid (Below w.heap.size w wr)) (fun i _ _ => N - (intOf i).toNat)
 case atStart => exact ⟨0, Nat.zero_le _, rfl, Below.refl _ _⟩
 case round =>
  obtain ⟨k, hk, rfl, HB⟩ := hrel
  obtain ⟨lsn, txn, v1, v3, v4, v5, v6, v7, v8, v9, v10, v11, hr, hh⟩ := HL.out k hk
  have hkN : k < N := by omega
  have HRG : Hid (wr.rangeAt g (k * 12) [.int .i64 lsn, v1, .int .i64 txn, v3, v4, v5, v6, v7, v8, v9, v10, v11]) := fun q v hv => (HB.out.cell (p := ⟨g, _, none⟩) hg).trans (hr q v hv)
  have HC := hide (isOf1_any wr bm bx x mark lsn txn id v1 v3 v4 v5 v6 v7 v8 v9 v10 v11 y1 y2 y3 ((HB.out.block bm (Array.getElem?_eq_some_iff.1 HM.out.1).1).trans HM.out.1) ((HB.out.block bx (Array.getElem?_eq_some_iff.1 HM.out.2.1).1).trans HM.out.2.1) ((HB.out.block x (Array.getElem?_eq_some_iff.1 HM.out.2.2).1).trans HM.out.2.2))
  have HH := hide hh
  clear hr hh
  generalize hbb : (decide (lsn = mark) && decide (txn = id)) = hit at HC
  have HBB := hide hbb
  clear hbb
  cases hit with
  | true =>
    go_wp2_with (first
     | (refine wpList_load_mid (by rfl) 88 _ (by rfl) g (k * 12) (by rfl) _ _ HRG.out Tryz.underlying88 rfl Tryz.size88n ?_)
     | (go_at_call 66; refine HC.out.mono ?_; rintro e W1 ⟨rfl, hb1⟩; have HB1 := hide (HB.out.trans (hb1.mono HB.out.size)); clear hb1))
    go_ret
    exact ⟨⟨k, rfl⟩, HB1.out⟩
  | false =>
    have hkj : k ≠ j0 := fun e => by
     obtain ⟨e1, e2⟩ := HH.out e
     have := HBB.out
     simp [e1, e2] at this
    go_wp2_with (first
     | (refine wpList_load_mid (by rfl) 88 _ (by rfl) g (k * 12) (by rfl) _ _ HRG.out Tryz.underlying88 rfl Tryz.size88n ?_)
     | (go_at_call 66; refine HC.out.mono ?_; rintro e W1 ⟨rfl, hb1⟩; have HB1 := hide (HB.out.trans (hb1.mono HB.out.size)); clear hb1))
    go_roundw
    case rel => exact ⟨k + 1, by omega, by go_num, HB1.out⟩
    case measure => simp [intOf]; omega
set_option maxHeartbeats 400000 in
theorem containsL (w : World) (g N cap bm bx x j0 : Nat) (mark id : Int) (y1 y2 y3 : Value) (hm : w.heap[bm]? = some (.cells #[.int .i64 mark] 3 (0, 0))) (hb : w.heap[bx]? = some (.cells #[.pointer (some ⟨x, 0, none⟩)] 72 (0, 0))) (hx : w.heap[x]? = some (.cells #[.int .i64 id, y1, y2, y3] 75 (0, 0)))
 (hg : g < w.heap.size) (hl : ∀ j, j ≤ j0 → ∃ (lsn txn : Int) (v1 v3 v4 v5 v6 v7 v8 v9 v10 v11 : Value), w.rangeAt g (j * 12) [.int .i64 lsn, v1, .int .i64 txn, v3, v4, v5, v6, v7, v8, v9, v10, v11] ∧ (j = j0 → lsn = mark ∧ txn = id)) (h0 : j0 < N) (hn : N ≤ 1000000000) :
 Calls Tryz.prog 64 #[.slice (some ⟨g, 0, none⟩) N cap, .func (.func 66) #[] #[.pointer (some ⟨bm, 0, none⟩), .pointer (some ⟨bx, 0, none⟩)]] w fun e w' => e = .returned (.bool true) ∧ Below w.heap.size w w' := by
 have HI := hide (indexL w g N cap bm bx x j0 mark id y1 y2 y3 hm hb hx hg hl h0 hn)
 clear hm hb hx hl
 go_enter Tryz.func64, Tryz.ntmps64
 go_wp2_with (go_at_call 98; refine HI.out.mono ?_; rintro e W1 ⟨⟨k, rfl⟩, hb1⟩; have HB1 := hide hb1; clear hb1; have hk0 : (0 : Int) ≤ (k : Int) := by omega)
 go_ret
 exact ⟨rfl, HB1.out⟩
section
variable {w0 w w' : World} {s : Nat} {c : Cf} {xs tb : List Nat} {ov : Value} {ps : List Nat} {uvs : List Value} {S : St}
set_option maxHeartbeats 1000000 in
set_option maxRecDepth 100000 in
theorem isOf_ok (h : StIs w0 w s c xs tb ov ps uvs S) {i x : Nat} {T : Tn} {uv : Value} (hx : ps[i]? = some x) (hT : S.txs[i]? = some T) (hu : uvs[i]? = some uv) (rs : List Enc.Rc) (hrs : S.R.held = encs rs) (hgd : ∀ R ∈ rs, R.good) (j : Nat) (R : Enc.Rc) (hj : rs[j]? = some R) (hR : R.txn = (T.id : Int)) (mark : Int) (hm : mark = ((S.R.start + (encs (rs.take j)).length + 1 : Nat) : Int)) :
 Calls Tryz.prog 37 #[.pointer (some ⟨s, 0, none⟩), .pointer (some ⟨x, 0, none⟩), .int .i64 mark] w fun e w' => e = .returned (.bool true) ∧ Below w.heap.size w w' := by
 have hb2 : Below w.heap.size w ((w.alloc (.cells #[.pointer (some ⟨x, 0, none⟩)] 72)).alloc (.cells #[.int .i64 mark] 3)) := (((Off.refl [] w).alloc _).alloc _).below (Nat.le_refl _) (by simp)
 have hbx : ((w.alloc (.cells #[.pointer (some ⟨x, 0, none⟩)] 72)).alloc (.cells #[.int .i64 mark] 3)).heap[w.heap.size]? = some (.cells #[.pointer (some ⟨x, 0, none⟩)] 72 (0, 0)) := (Below.heap_alloc _ _ _ (by simp)).trans (World.alloc_heap_new w _)
 have hbm : ((w.alloc (.cells #[.pointer (some ⟨x, 0, none⟩)] 72)).alloc (.cells #[.int .i64 mark] 3)).heap[w.heap.size + 1]? = some (.cells #[.int .i64 mark] 3 (0, 0)) := by
  have := World.alloc_heap_new (w.alloc (.cells #[.pointer (some ⟨x, 0, none⟩)] 72)) (.cells #[.int .i64 mark] 3)
  rwa [show (w.alloc (.cells #[.pointer (some ⟨x, 0, none⟩)] 72)).heap.size = w.heap.size + 1 by simp] at this
 obtain ⟨vs, t⟩ := (h.belowW hb2).tx i x T uv hx hT hu
 have HLN := hide (lines_ok (h.belowW hb2) rs hrs hgd)
 have HB2 := hide hb2
 have HBX := hide hbx
 have HBM := hide hbm
 have HX := hide t.head
 have hjl : j < rs.length := (List.getElem?_eq_some_iff.1 hj).1
 have hlen : rs.length ≤ 1000000000 := by
  have h1 := len_encs rs
  rw [← hrs] at h1
  obtain ⟨bl, vs2, gp, D, hpx, hy⟩ := h.asRing
  have h2 := hy.rg.wf.held
  omega
 have HR : Hid (∀ j' R', rs[j']? = some R' → j' = j → ((S.R.start + (encs (rs.take j')).length + 1 : Nat) : Int) = mark ∧ R'.txn = (T.id : Int)) := fun j' R' h1 h2 => by
  subst h2
  rw [hj] at h1
  cases h1
  exact ⟨hm.symm, hR⟩
 clear hb2 hbx hbm t h hx hT hu hrs hgd hj hR hm
 go_enter Tryz.func37, Tryz.ntmps37
 go_upto_region 1 with fail
 generalize ((w.alloc (.cells #[.pointer (some ⟨x, 0, none⟩)] 72)).alloc (.cells #[.int .i64 mark] 3)) = W2 at *
 generalize w.heap.size + 1 = bm at *
 go_wp2_with (first
  | (go_at_call 65; refine HLN.out.mono ?_; rintro e W3 ⟨l, rfl, hl3, hb3⟩
     obtain ⟨g, cap, el, hg, hline⟩ := hl3.line (by omega)
     subst el
     have HCT := hide (containsL W3 g rs.length cap bm w.heap.size x j mark (T.id : Int) _ _ _ ((hb3.block bm (Array.getElem?_eq_some_iff.1 HBM.out).1).trans HBM.out) ((hb3.block _ (Array.getElem?_eq_some_iff.1 HBX.out).1).trans HBX.out) ((hb3.block x (Array.getElem?_eq_some_iff.1 HX.out).1).trans HX.out) hg (fun j' hj' => by
      obtain ⟨R', hR'⟩ : ∃ R', rs[j']? = some R' := ⟨_, List.getElem?_eq_getElem (by omega)⟩
      obtain ⟨v1, v3, v4, v5, v6, v7, v8, v9, v10, v11, hv⟩ := hline j' R' hR'
      exact ⟨_, _, v1, v3, v4, v5, v6, v7, v8, v9, v10, v11, hv, HR.out j' R' hR'⟩) (by omega) (by omega))
     have HB3 := hide (HB2.out.trans (hb3.mono HB2.out.size))
     clear hl3 hb3 hline hg HLN)
  | (go_at_call 64; refine HCT.out.mono ?_; rintro e W4 ⟨rfl, hb4⟩; have HB4 := hide (HB3.out.trans (hb4.mono HB3.out.size)); clear hb4))
 go_ret
 exact ⟨rfl, HB4.out⟩
end
end Go.Proofs.YteeembildppgmaaGreat
namespace Go.Proofs.YteeembildppgmaaGreat
open Go.RowKit
set_option linter.unusedVariables false
set_option linter.unusedSimpArgs false
section
variable {w0 w w' : World} {s : Nat} {c : Cf} {xs tb : List Nat} {ov : Value} {ps : List Nat} {uvs : List Value} {S : St} {V : Nat → List UInt8}
set_option maxHeartbeats 2000000 in
set_option maxRecDepth 100000 in
theorem back_one (h : StIs w0 w s c xs tb ov ps uvs S) {T : Tn} (h1 : S.txs = [T]) (us0 us : List Up) (hups : T.ups = us0 ++ us) (hi : PInv c.n S.pool V) (hok : UpsOk c.n us) (hroom : resU us ≤ S.R.room) (hid : T.id ≤ 1000000000000) (hla : T.last ≤ 4398046511104) (hwr : S.pool.wr + 2 * us.length ≤ 1000000) (hfew : T.ups.length ≤ 1000000000) (n : Int) (hn : n = (T.id : Int))
 (rs : List Enc.Rc) (hrs : S.R.held = encs rs) (hgd : ∀ R ∈ rs, R.good) (j : Nat) (R : Enc.Rc) (hj : rs[j]? = some R) (hR : R.txn = (T.id : Int)) (m : Nat) (hm : m = S.R.start + (encs (rs.take j)).length + 1) (hu0 : ∀ u ∈ us0, u.lsn ≤ m) (hu1 : ∀ u ∈ us, m < u.lsn) :
 Calls Tryz.prog 14 #[.pointer (some ⟨s, 0, none⟩), .int .i64 n, .int .i64 (m : Int)] w fun e w' => e = .returned (.int .i64 0) ∧ ∃ pl, StAt w0 w' s c xs { S with pool := pl, txs := [⟨T.id, T.begin, rbL us.reverse S.R.tail T.last, us0⟩] } ∧ PInv c.n pl (rbV us.reverse S.R.tail V) ∧ pl.wr ≤ S.pool.wr + 2 * us.length ∧ pl.fs.length = S.pool.fs.length ∧
  RS { S.R with held := S.R.held ++ rbH us.reverse T.id S.R.tail T.last } pl.fo.1 ∧ Kept xs w w' := by
 have hT : S.txs[0]? = some T := by rw [h1]; rfl
 obtain ⟨g, x, uv, vs, cc, hov, hx, hu, t, hcell⟩ := h.txAt 0 T hT
 have HF := hide (sfind_ok h hx hT (fun j U hj => by omega) n hn)
 have HIS := hide (isOf_ok h hx hT hu rs hrs hgd j R hj hR (m : Int) (by rw [hm]))
 obtain ⟨VF, hVF⟩ : ∃ VF, rbV us.reverse S.R.tail V = VF := ⟨_, rfl⟩
 obtain ⟨HH, hHH⟩ : ∃ HH, S.R.held ++ rbH us.reverse T.id S.R.tail T.last = HH := ⟨_, rfl⟩
 obtain ⟨LF, hLF⟩ : ∃ LF, rbL us.reverse S.R.tail T.last = LF := ⟨_, rfl⟩
 rw [hVF, hHH, hLF]
 have HR1 : Hid (∀ W2, Below w.heap.size w W2 → Bk w0 w W2 s c xs S x T.id T.begin us0 VF HH LF (S.pool.wr + 2 * us.length) us) := fun W2 hb2 =>
  ⟨⟨S, T.last, V, tb, ov, ps, uvs, uv, h.belowW hb2, by rw [h1, ← hups], hx, hu, hla, hi, hVF, hHH, hLF, Nat.le_refl _, rfl, hroom, ⟨S.R.fin, rfl⟩, rfl⟩, hok, ⟨hb2.size, fun k hk => hb2.block k (h.lt hk)⟩, by rw [← hups]; exact hfew⟩
 have HU := hide (And.intro hu0 hu1)
 have hW : S.pool.wr + 2 * us.length ≤ 1000000 := hwr
 generalize S.pool.wr + 2 * us.length = WW at *
 clear h hx hT hu hroom hcell t hov hn hi hok hVF hHH hLF hla h1 hwr hrs hgd hj hR hm hu0 hu1 hups hfew
 generalize T.id = id at *
 generalize T.begin = bg at *
 go_enter Tryz.func14, Tryz.ntmps14
 go_wp2
 refine wp_scope_two 1 0 (fun a' w' => ∃ (us : List Up) (u9 u10 u11 u12 u13 u14 u15 u16 u17 u18 u19 u20 u21 u22 u23 u24 u25 u26 u27 u28 u29 u30 u31 u32 : Value), a' = { tmps := #[.pointer (some ⟨s, 0, none⟩), .int .i64 n, .int .i64 (m : Int), undef, undef, undef, .int .i64 0, .pointer (some ⟨x, 0, none⟩), .int .i64 0, u9, u10, u11, u12, u13, u14, u15, u16, u17, u18, u19, u20, u21, u22, u23, u24, u25, u26, u27, u28, u29, u30, u31, u32], defers := [] } ∧ Bk w0 w w' s c xs S x id bg us0 VF HH LF WW us ∧ ∀ u ∈ us, m < u.lsn) (fun a' w' => ∃ (u9 u10 u11 u12 u13 u14 u15 u16 u17 u18 u19 u20 u21 u22 u23 u24 u25 u26 u27 u28 u29 u30 u31 u32 : Value), a' = { tmps := #[.pointer (some ⟨s, 0, none⟩), .int .i64 n, .int .i64 (m : Int), undef, undef, undef, .int .i64 0, .pointer (some ⟨x, 0, none⟩), .int .i64 0, u9, u10, u11, u12, u13, u14, u15, u16, u17, u18, u19, u20, u21, u22, u23, u24, u25, u26, u27, u28, u29, u30, u31, u32], defers := [] } ∧ Bk w0 w w' s c xs S x id bg us0 VF HH LF WW []) (fun _ w' => upsIn x w') rfl rfl ?_ ?_ ?_
 · have HU1 : Hid (∀ u ∈ us, m < u.lsn) := HU.out.2
   go_upto_region 6 with (first
    | (go_at_call 31; refine HF.out.mono ?_; rintro e w' ⟨rfl, hw⟩; have hw := hw.symm; subst hw)
    | (go_at_call 37; refine HIS.out.mono ?_; rintro e W2 ⟨rfl, hb2⟩; have HB := hide (HR1.out W2 hb2); clear hb2))
   clear HR1
   go_step3
   rcases List.eq_nil_or_concat us with rfl | ⟨vs', u, rfl⟩
   · have HAS := hide (HB.out.asks m HU.out.1 HU1.out)
     simp only [ne_eq, not_true_eq_false, decide_false] at HAS
     go_wp2_with (first
      | (go_at_call 38; refine HAS.out.mono ?_; rintro e w' ⟨rfl, hw⟩; have hw := hw.symm; subst hw))
     go_step3
     exact .inr ⟨rfl, _, _, _, _, _, _, _, _, _, _, _, _, _, _, _, _, _, _, _, _, _, _, _, _, rfl, HB.out⟩
   · have HAS := hide (HB.out.asks m HU.out.1 HU1.out)
     have hne : decide (vs'.concat u ≠ []) = true := by simp
     rw [hne] at HAS
     have HB' : Hid (Bk w0 w W2 s c xs S x id bg us0 VF HH LF WW (vs' ++ [u])) := by rw [Hid, ← List.concat_eq_append]; exact HB.out
     have HST := hide (HB'.out.step hW hid)
     have HUV : Hid (∀ u ∈ vs', m < u.lsn) := fun v hv => HU1.out v (by simp [hv])
     have HMU : Hid (upsIn x W2 = (us0 ++ (vs' ++ [u])).length) := HB'.out.upsIn
     go_wp2_with (first
      | (go_at_call 38; refine HAS.out.mono ?_; rintro e w' ⟨rfl, hw⟩; have hw := hw.symm; subst hw)
      | (go_at_call 39; refine HST.out.mono ?_; rintro e W3 ⟨rfl, h3⟩; have H3 := hide h3; clear h3))
     go_step3
     exact .inl ⟨rfl, _, _, _, _, _, _, _, _, _, _, _, _, _, _, _, _, _, _, _, _, _, _, _, _, _, rfl, H3.out, HUV.out⟩
 · rintro a' wk ⟨us, u9, u10, u11, u12, u13, u14, u15, u16, u17, u18, u19, u20, u21, u22, u23, u24, u25, u26, u27, u28, u29, u30, u31, u32, rfl, hr, hu⟩
   have HB := hide hr
   have HU1 := hide hu
   clear hr hu
   rcases List.eq_nil_or_concat us with rfl | ⟨vs', u, rfl⟩
   · have HAS := hide (HB.out.asks m HU.out.1 HU1.out)
     simp only [ne_eq, not_true_eq_false, decide_false] at HAS
     go_wp2_with (first
      | (go_at_call 38; refine HAS.out.mono ?_; rintro e w' ⟨rfl, hw⟩; have hw := hw.symm; subst hw))
     go_step3
     exact .inr ⟨rfl, _, _, _, _, _, _, _, _, _, _, _, _, _, _, _, _, _, _, _, _, _, _, _, _, rfl, HB.out⟩
   · have HAS := hide (HB.out.asks m HU.out.1 HU1.out)
     have hne : decide (vs'.concat u ≠ []) = true := by simp
     rw [hne] at HAS
     have HB' : Hid (Bk w0 w wk s c xs S x id bg us0 VF HH LF WW (vs' ++ [u])) := by rw [Hid, ← List.concat_eq_append]; exact HB.out
     have HST := hide (HB'.out.step hW hid)
     have HUV : Hid (∀ u ∈ vs', m < u.lsn) := fun v hv => HU1.out v (by simp [hv])
     have HMU : Hid (upsIn x wk = (us0 ++ (vs' ++ [u])).length) := HB'.out.upsIn
     go_wp2_with (first
      | (go_at_call 38; refine HAS.out.mono ?_; rintro e w' ⟨rfl, hw⟩; have hw := hw.symm; subst hw)
      | (go_at_call 39; refine HST.out.mono ?_; rintro e W3 ⟨rfl, h3⟩; have H3 := hide h3; clear h3))
     go_step3
     exact .inl ⟨rfl, ⟨_, _, _, _, _, _, _, _, _, _, _, _, _, _, _, _, _, _, _, _, _, _, _, _, _, rfl, H3.out, HUV.out⟩, by rw [HMU.out, H3.out.upsIn]; simp⟩
 · rintro a' wk ⟨u9, u10, u11, u12, u13, u14, u15, u16, u17, u18, u19, u20, u21, u22, u23, u24, u25, u26, u27, u28, u29, u30, u31, u32, rfl, hr⟩
   have HFI := hide hr.fin
   clear hr
   go_wp2
   go_ret
   exact ⟨rfl, HFI.out⟩
end
end Go.Proofs.YteeembildppgmaaGreat
namespace Go.Proofs.YteeembildppgmaaGreat
open Go.RowKit
set_option linter.unusedVariables false
set_option linter.unusedSimpArgs false
def areaN (D : Nat → List UInt8) (j : Nat) : List UInt8 := (List.range j).flatMap D
theorem areaN_succ (D : Nat → List UInt8) (j : Nat) : areaN D (j + 1) = areaN D j ++ D j := by simp [areaN, List.range_succ]
theorem len_areaN {D : Nat → List UInt8} {n : Nat} (h : ∀ p, p < n → (D p).length = 504) : ∀ j, j ≤ n → (areaN D j).length = 504 * j
 | 0, _ => rfl
 | j + 1, hj => by rw [areaN_succ, List.length_append, len_areaN h j (by omega), h j (by omega)]; omega
theorem size_strOf (l : List UInt8) : (strOf l).size = l.length := by simp [strOf, ByteArray.size]
theorem strOf_append (a b : List UInt8) : strOf a ++ strOf b = strOf (a ++ b) := by
 apply ByteArray.ext
 simp [strOf, ByteArray.data_append]
section
variable {w0 w w' : World} {s : Nat} {c : Cf} {xs tb : List Nat} {ov : Value} {ps : List Nat} {uvs : List Value} {S : St} {V : Nat → List UInt8}
structure Rdd (w0 w wk : World) (s : Nat) (c : Cf) (xs tb : List Nat) (ov : Value) (ps : List Nat) (uvs : List Value) (S : St) (V : Nat → List UInt8) (k : Nat) : Prop where
 is : ∃ pl, StIs w0 wk s c xs tb ov ps uvs { S with pool := pl } ∧ PInv c.n pl V ∧ RS S.R pl.fo.1 ∧ pl.wr ≤ S.pool.wr + k ∧ pl.fs.length = S.pool.fs.length
 kept : Kept (s :: (tb ++ xs)) w wk
theorem Rdd.read {wk : World} {k : Nat} (r : Rdd w0 w wk s c xs tb ov ps uvs S V k) (hwr : S.pool.wr + k ≤ 1000000) (pg : Nat) (hp : pg < c.n) :
 Calls Tryz.prog 24 #[.pointer (some ⟨s, 0, none⟩), .int .i64 (pg : Int), .int .i64 0, .int .i64 504] wk fun e w' => ∃ g, e = .returned (.tuple #[.slice (some ⟨g, 0, none⟩) 504 504, .int .i64 0]) ∧ w'.heap[g]? = some (.cells (secCells (dat V pg)).toArray 5 (0, 0)) ∧ Rdd w0 w w' s c xs tb ov ps uvs S V (k + 1) := by
 obtain ⟨⟨pl, h, hi, hr, hw, hf⟩, kept⟩ := r
 have hv := hi.v5 pg hp
 have e0 : ((V pg).drop (8 + 0)).take 504 = dat V pg := by
  unfold dat
  rw [List.take_of_length_le (by rw [List.length_drop, hv]; omega)]
 refine (sread_ok h hi (by show pl.wr ≤ _; omega) pg 0 504 hp (by omega) (by omega)).mono ?_
 rintro e w' ⟨g, rfl, _, hg, h', hk'⟩
 rw [e0] at hg
 obtain ⟨_, _, st⟩ := hi.get pg hp
 refine ⟨g, rfl, hg, ⟨⟨_, h'.mind (fun k hk => by simp [hk]), st.inv, hr.trans st.rs, by have := st.wr; show (cGet c pl pg).2.2.wr ≤ _; omega, by rw [← hf]; exact st.len⟩, kept.trans hk'⟩⟩
set_option maxHeartbeats 1000000 in
set_option maxRecDepth 100000 in
theorem swrite_zero (h : StIs w0 w s c xs tb ov ps uvs S) {i x : Nat} {T : Tn} {uv : Value} (hx : ps[i]? = some x) (hT : S.txs[i]? = some T) (hu : uvs[i]? = some uv) (hno : ∀ (j : Nat) U, j < i → S.txs[j]? = some U → U.id ≠ T.id) (t : Int) (ht : t = (T.id : Int)) (pg off : Nat) (a : Option Addr) (ca : Nat) (hp : pg < c.n) (ho : off ≤ 504)
 (hbz : Calls Tryz.prog 33 #[.pointer (some ⟨s, 0, none⟩), .pointer (some ⟨x, 0, none⟩), .int .i64 (pg : Int), .int .i64 (off : Int), .int .i64 0] w fun e w' => e = .returned (.bool false) ∧ Below w.heap.size w w') :
 Calls Tryz.prog 13 #[.pointer (some ⟨s, 0, none⟩), .int .i64 t, .int .i64 (pg : Int), .int .i64 (off : Int), .slice a 0 ca] w fun e w' => e = .returned (.int .i64 0) ∧ Below w.heap.size w w' := by
 have HF := hide (sfind_ok h hx hT hno t ht)
 have HHAS := hide (shas_any h (pg : Int) (off : Int) 0 (by omega))
 have hhas : hasB c.n (pg : Int) (off : Int) 0 = true := decide_eq_true (by omega)
 rw [hhas] at HHAS
 have HBZ := hide hbz
 clear h hx hT hu hno ht hbz hhas
 go_enter Tryz.func13, Tryz.ntmps13
 go_wp2_with (first
  | (go_at_call 31; refine HF.out.mono ?_; rintro e w' ⟨rfl, hw⟩; have hw := hw.symm; subst hw)
  | (go_at_call 32; refine HHAS.out.mono ?_; rintro e w' ⟨rfl, hw⟩; have hw := hw.symm; subst hw)
  | (go_at_call 33; refine HBZ.out.mono ?_; rintro e W1 ⟨rfl, hb1⟩; have HB1 := hide hb1; clear hb1))
 go_ret
 exact ⟨rfl, HB1.out⟩
end
end Go.Proofs.YteeembildppgmaaGreat
namespace Go.Proofs.YteeembildppgmaaGreat
open Go.RowKit
set_option linter.unusedVariables false
set_option linter.unusedSimpArgs false
def layL (n : Int) : Int := if n < 128 then 0 else n.tdiv 4
def layP (n : Int) : Int := if n < 128 then 0 else (n - 7 - n.tdiv 4).tdiv 4
set_option maxHeartbeats 400000 in
theorem layout_any (w : World) (n : Int) (h1 : -9223372036854775808 ≤ n) (h2 : n ≤ 9223372036854775807) :
 Calls Tryz.prog 17 #[.int .i64 n] w fun e w' => e = .returned (.tuple #[.int .i64 (layL n), .int .i64 (layP n)]) ∧ w' = w := by
 unfold layL layP
 by_cases h : n < 128
 · simp only [if_pos h]
   go_enter Tryz.func17, Tryz.ntmps17
   go_wp2
   go_ret2
   exact ⟨rfl, rfl⟩
 · simp only [if_neg h]
   have e4 : n.tdiv 4 = n / 4 := Int.tdiv_eq_ediv_of_nonneg (by omega)
   have e5 : (n - 7 - n.tdiv 4).tdiv 4 = (n - 7 - n / 4) / 4 := by rw [e4]; exact Int.tdiv_eq_ediv_of_nonneg (by omega)
   rw [e5, e4]
   go_enter Tryz.func17, Tryz.ntmps17
   go_wp2
   go_ret2
   rw [show n - 7 - n / 4 = n - 2 - n / 4 - 5 by omega]
   exact ⟨rfl, rfl⟩
set_option maxHeartbeats 400000 in
theorem snumber_ok (w : World) (g o n c : Nat) (bs : List UInt8) (hl : bs.length = 8) (hn : 8 ≤ n) (hc : n ≤ c) (hm : c ≤ 1000000) (hr : w.rangeAt g o (secCells bs)) (hv : Enc.beval bs ≤ 4611686018427387904) :
 Calls Tryz.prog 104 #[.slice (some ⟨g, o, none⟩) n c] w fun e w' => e = .returned (.tuple #[.int .i64 (Enc.beval bs : Nat), .bool true]) ∧ w' = w := by
 have HG : Hid (∀ k (hk : k < 8), w.cell? ⟨g, o + k, none⟩ = some (.int .u8 ((bs.getD k 0).toNat : Int))) := fun k hk => by
  have := hr k (.int .u8 ((bs.getD k 0).toNat : Int)) (by simp [secCells, bcell, List.getElem?_eq_getElem (show k < bs.length by omega), List.getD])
  exact this
 have HT : Hid (∀ k, k < 8 → Enc.beval (bs.take (k + 1)) = Enc.beval (bs.take k) * 256 + (bs[k]?.getD 0).toNat) := fun k hk => by
  rw [List.take_succ_eq_append_getElem (by omega), Enc.beval_snoc, List.getElem?_eq_getElem (by omega)]
  rfl
 have hcut1 : ∀ u, (Instr.sliceAt 36 (.slice (some ⟨g, o, none⟩) n c) none (some (.int .i64 8)) none).run Tryz.prog u = .ok (.slice (some ⟨g, o, none⟩) 8 c) u := fun u => Enc.run_cut_to u (some ⟨g, o, none⟩) n c 8 (by omega)
 have hgr : ((Enc.beval (bs.take 8) : Nat) : Int) ≤ 4611686018427387904 := by rw [List.take_of_length_le (by omega)]; omega
 have HALL : Hid (bs.take 8 = bs) := List.take_of_length_le (by omega)
 clear hr hv hl
 go_enter Tryz.func104, Tryz.ntmps104
 go_wp2
 go_loop [10, 4] (fun i v => ∃ k : Nat, k ≤ 8 ∧ i = .int .i64 k ∧ v = .int .u64 (Enc.beval (bs.take k) : Nat)) (fun i _ => 8 - (intOf i).toNat)
 case atStart => exact ⟨0, by omega, rfl, rfl⟩
 case round =>
  obtain ⟨k, hk, rfl, rfl⟩ := hrel
  by_cases hlt : k < 8
  · have hcell := HG.out k hlt
    go_wp2
    go_round
    case rel =>
     refine ⟨k + 1, by omega, by go_num, ?_⟩
     rw [Enc.or_u64 _ _ (Enc.beval_take_lt bs k (by omega)) (UInt8.toNat_lt _), HT.out k hlt]
    case measure => simp [intOf]; omega
  · have hk8 : k = 8 := by omega
    subst hk8
    go_wp2
    go_ret2
    rw [HALL.out]
    exact ⟨rfl, rfl⟩
section
variable {w0 w w' : World} {s : Nat} {c : Cf} {xs tb : List Nat} {ov : Value} {ps : List Nat} {uvs : List Value} {S : St} {V : Nat → List UInt8}
set_option maxHeartbeats 400000 in
theorem log_ok (h : StIs w0 w s c xs tb ov ps uvs S) (rs : List Enc.Rc) (hrs : S.R.held = encs rs) (hgd : ∀ R ∈ rs, R.good) :
 Calls Tryz.prog 43 #[.pointer (some ⟨s, 0, none⟩)] w fun e w' => ∃ l, e = .returned l ∧ LinesAt w' w.heap.size l S.R.start rs ∧ Below w.heap.size w w' := by
 have HL := hide (lines_ok h rs hrs hgd)
 clear h hrs hgd
 go_enter Tryz.func43, Tryz.ntmps43
 go_wp2_with (go_at_call 65; refine HL.out.mono ?_; rintro e w2 ⟨l, rfl, h2⟩; have H2 := hide h2; clear h2)
 go_ret
 exact ⟨l, rfl, H2.out⟩
end
end Go.Proofs.YteeembildppgmaaGreat
