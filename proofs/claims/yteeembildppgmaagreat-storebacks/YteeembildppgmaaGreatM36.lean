/- A part of it: SAhd SDrt. -/
import Derived.Test.YteeembildppgmaaGreatM28
import Derived.Test.YteeembildppgmaaGreatM30
import Derived.Test.YteeembildppgmaaGreatM13
import Derived.Test.YteeembildppgmaaGreatM18
import Derived.Deep.CutBlock
namespace Go.Proofs.YteeembildppgmaaGreat
open Go.RowKit
set_option linter.unusedVariables false
set_option linter.unusedSimpArgs false
def LnIn (w : World) (g j : Nat) (lsn kd : Int) : Prop := ∃ (v2 v3 v4 v5 v6 v11 : Int) (a7 a8 a9 a10 : Option Addr) (n7 n8 n9 n10 c7 c8 c9 c10 : Nat), w.rangeAt g (j * 12) [.int .i64 lsn, .int .i64 kd, .int .i64 v2, .int .i64 v3, .int .i64 v4, .int .i64 v5, .int .i64 v6, .slice a7 n7 c7, .slice a8 n8 c8, .slice a9 n9 c9, .slice a10 n10 c10, .int .i64 v11]
theorem line_K {w : World} {base st : Nat} {l : Value} {rs : List Enc.Rc} (h : LinesAt w base l st rs) (h0 : 0 < rs.length) : ∃ g cap, l = .slice (some ⟨g, 0, none⟩) rs.length cap ∧ g < w.heap.size ∧ ∀ (j : Nat) (R : Enc.Rc), rs[j]? = some R → LnIn w g j ((st + (encs (rs.take j)).length + 1 : Nat) : Int) R.kind := by
 obtain ⟨qs, hq, ho, hr⟩ := h.is
 rcases ho.2 with ⟨_, e⟩ | ⟨g, cap, cur, rfl, _, hg, _, _, _, htk⟩
 · omega
 · refine ⟨g, cap, rfl, (Array.getElem?_eq_some_iff.1 hg).1, fun j R hR => ?_⟩
   have hj : j < rs.length := (List.getElem?_eq_some_iff.1 hR).1
   obtain ⟨q, hqj⟩ : ∃ q, qs[j]? = some q := ⟨_, List.getElem?_eq_getElem (by omega)⟩
   obtain ⟨vb, va, vt, vd, e, o1, o2, o3, o4⟩ := hr j R q hR hqj
   obtain ⟨a7, c7, rfl⟩ := Enc.owns_len o1
   obtain ⟨a8, c8, rfl⟩ := Enc.owns_len o2
   obtain ⟨a9, c9, rfl⟩ := Enc.owns_len o3
   obtain ⟨a10, c10, rfl⟩ := Enc.owns_len o4
   simp only [Enc.recCells, Value.agg.injEq, Array.mk.injEq, List.cons.injEq, true_and, and_true] at e
   obtain ⟨e1, e2, e3, e4⟩ := e
   refine ⟨R.txn, R.prev, R.next, R.page, R.off, R.count, a7, a8, a9, a10, R.before.length, R.after.length, R.txns.length, R.dirty.length, c7, c8, c9, c10, fun k v hv => ?_⟩
   rw [← e1, ← e2, ← e3, ← e4] at hv
   have hk : k < 12 := by
    have := (List.getElem?_eq_some_iff.1 hv).1
    simpa using this
   rw [cell_of_row w g _ _ _ _ hg]
   have h1 := linesRow_get rs qs st j R q k hq hR hqj hk
   rw [← htk, List.getElem?_take_of_lt (by omega)] at h1
   have h2 : cur[j * 12 + k]? = (lineCells (st + (encs (rs.take j)).length + 1) R q)[k]? := by simpa using h1
   rw [h2]
   exact hv
section
variable {w0 w w' : World} {s : Nat} {c : Cf} {xs tb : List Nat} {ov : Value} {ps : List Nat} {uvs : List Value} {S : St}
set_option maxHeartbeats 400000 in
theorem txns_none (h : StIs w0 w s c xs tb ov ps uvs S) (hn : S.txs = []) :
 Calls Tryz.prog 88 #[.pointer (some ⟨s, 0, none⟩)] w fun e w' => e = .returned (.slice none 0 0) ∧ w' = w := by
 have c4 := h.c4
 obtain ⟨ao, cc, rfl⟩ := Enc.owns_len h.own
 rw [hn] at c4
 clear h hn
 go_enter Tryz.func88, Tryz.ntmps88
 go_wp2
 refine wp_loop_rounds 1 ?_
 rw [rounds_succ]
 go_wp2
 go_ret
 exact ⟨rfl, rfl⟩
set_option maxHeartbeats 1000000 in
set_option maxRecDepth 100000 in
theorem commitsAhead_ok (h : StIs w0 w s c xs tb ov ps uvs S) (rs : List Enc.Rc) (hrs : S.R.held = encs rs) (hgd : ∀ R ∈ rs, R.good) (h0 : 0 < rs.length) (st : Int) (hno : ∀ (j : Nat) (R : Enc.Rc), rs[j]? = some R → st < ((S.R.start + (encs (rs.take j)).length + 1 : Nat) : Int) → R.kind ≠ 4) :
 Calls Tryz.prog 112 #[.pointer (some ⟨s, 0, none⟩), .int .i64 st] w fun e w' => e = .returned (.int .i64 (S.commits : Int)) ∧ Below w.heap.size w w' := by
 have c6 : w.cell? ⟨s, 6, none⟩ = some (.int .i64 (S.commits : Int)) := by rw [cell_of_row w s 6 _ _ _ h.head]; rfl
 have HL := hide (lines_ok h rs hrs hgd)
 have HNO := hide hno
 have hlen : rs.length ≤ 1000000000 := by
  have h1 := len_encs rs
  rw [← hrs] at h1
  obtain ⟨bl, vs2, gp, D, hpx, hy⟩ := h.asRing
  have h2 := hy.rg.wf.held
  omega
 clear h hrs hgd hno
 go_enter Tryz.func112, Tryz.ntmps112
 go_wp2_with (go_at_call 65; refine HL.out.mono ?_; rintro e W2 ⟨l, rfl, hl, hB⟩; obtain ⟨g, cap, rfl, hg, hline⟩ := line_K hl h0; have HB := hide hB; have HLN := hide hline; clear hB hl hline)
 go_loopw [15, 5, 7] (fun i n _ wr => ∃ k : Nat, k ≤ rs.length ∧ i = .int .i64 (k : Int) ∧ n = .int .i64 (S.commits : Int) ∧ Hid (Below W2.heap.size W2 wr)) (fun i _ _ _ => rs.length - (intOf i).toNat)
 case atStart => exact ⟨0, Nat.zero_le _, rfl, rfl, Below.refl _ _⟩
 case round =>
  obtain ⟨k, hk, rfl, rfl, HBR⟩ := hrel
  by_cases hkl : k < rs.length
  · obtain ⟨R, hR⟩ : ∃ R, rs[k]? = some R := ⟨_, List.getElem?_eq_getElem hkl⟩
    obtain ⟨v2, v3, v4, v5, v6, v11, a7, a8, a9, a10, n7, n8, n9, n10, c7, c8, c9, c10, hr⟩ := HLN.out k R hR
    have hnk := HNO.out k R hR
    generalize ((S.R.start + (encs (rs.take k)).length + 1 : Nat) : Int) = lsn at hnk hr
    generalize hkd : R.kind = kd at hnk hr
    have HRG : Hid (wr.rangeAt g (k * 12) [.int .i64 lsn, .int .i64 kd, .int .i64 v2, .int .i64 v3, .int .i64 v4, .int .i64 v5, .int .i64 v6, .slice a7 n7 c7, .slice a8 n8 c8, .slice a9 n9 c9, .slice a10 n10 c10, .int .i64 v11]) := fun q v hv => (HBR.out.cell (p := ⟨g, _, none⟩) hg).trans (hr q v hv)
    clear hr hkd hR
    by_cases hlt : st < lsn
    · have hkd4 := hnk hlt
      clear hnk
      have hkd4b : (kd == 4) = false := by simpa using hkd4
      go_wp2_with (first
       | (refine wpList_load_mid (by rfl) 88 _ (by rfl) g (k * 12) (by rfl) _ _ HRG.out Tryz.underlying88 rfl Tryz.size88n ?_))
      go_roundw
      case rel => exact ⟨k + 1, by omega, by go_num, rfl, HBR.out.alloc HBR.out.size _⟩
      case measure => simp [intOf]; omega
    · clear hnk
      go_wp2_with (first
       | (refine wpList_load_mid (by rfl) 88 _ (by rfl) g (k * 12) (by rfl) _ _ HRG.out Tryz.underlying88 rfl Tryz.size88n ?_))
      go_roundw
      case rel => exact ⟨k + 1, by omega, by go_num, rfl, HBR.out.alloc HBR.out.size _⟩
      case measure => simp [intOf]; omega
  · have hkr : k = rs.length := by omega
    subst hkr
    go_wp2
    go_ret
    exact ⟨rfl, HB.out.trans (HBR.out.mono HB.out.size)⟩
end
end Go.Proofs.YteeembildppgmaaGreat
namespace Go.Proofs.YteeembildppgmaaGreat
open Go.RowKit
set_option linter.unusedVariables false
set_option linter.unusedSimpArgs false
theorem dt_get : ∀ (d : List (Int × Int)) (j : Nat) (u : Value), (Enc.dtCells d)[j]? = some u → ∃ (i : Nat) (x : Int × Int), d[i]? = some x ∧ (j = i * 2 ∧ u = .int .i64 x.1 ∨ j = i * 2 + 1 ∧ u = .int .i64 x.2)
 | [], j, u, h => by simp [Enc.dtCells] at h
 | t :: r, 0, u, h => ⟨0, t, rfl, .inl ⟨rfl, by simpa [Enc.dtCells, Enc.icell] using h.symm⟩⟩
 | t :: r, 1, u, h => ⟨0, t, rfl, .inr ⟨rfl, by simpa [Enc.dtCells, Enc.icell] using h.symm⟩⟩
 | t :: r, j + 2, u, h => by
   obtain ⟨i, x, h1, h2⟩ := dt_get r j u (by simpa [Enc.dtCells] using h)
   exact ⟨i + 1, x, by simpa using h1, h2.imp (fun ⟨a, b⟩ => ⟨by omega, b⟩) (fun ⟨a, b⟩ => ⟨by omega, b⟩)⟩
theorem dirt_row {w : World} {ao : Option Addr} {cc : Nat} {d : List (Int × Int)} (h : DirtAt w (.slice ao d.length cc) d) (h1 : d.length ≤ cc) (h2 : cc ≤ maxLen) : Enc.Row w (.slice ao d.length cc) d.length (Enc.dtCells d) := by
 obtain ⟨ao', c', e, hd⟩ := h
 obtain ⟨rfl, -, rfl⟩ : ao = ao' ∧ d.length = d.length ∧ cc = c' := by simpa using e
 refine ⟨ao, cc, rfl, h1, h2, fun hne => ?_⟩
 cases d with
 | nil => exact absurd rfl hne
 | cons t r =>
   obtain ⟨g, hg, -⟩ := hd 0 t rfl
   refine ⟨g, 0, hg, fun j u hu => ?_⟩
   obtain ⟨i, x, hx, hj⟩ := dt_get _ j u hu
   obtain ⟨g', hg', a1, a2⟩ := hd i x hx
   obtain rfl : g = g' := by rw [hg] at hg'; simpa using hg'
   rw [Nat.zero_add]
   rcases hj with ⟨rfl, rfl⟩ | ⟨rfl, rfl⟩
   · exact a1
   · exact a2
section
variable {Φ : Back} {w0 w w' : World} {P G : Nat} {xs bl : List Nat} {vs : List Value} {S : Pl Φ.σ}
set_option maxHeartbeats 2000000 in
set_option maxRecDepth 100000 in
theorem dirty_new (h : PoolIs Φ w0 w P G xs bl vs S) (h12 : (dirtL S.fs).length ≤ 12) :
 Calls Tryz.prog 89 #[.pointer (some ⟨P, 0, none⟩)] w fun e w' => ∃ ao cc d, e = .returned (.slice ao d.length cc) ∧ (d.length ≤ cc ∧ cc ≤ maxLen ∧ ∀ b, (Value.slice ao d.length cc).ownBlock = some b → w.heap.size ≤ b ∧ b < w'.heap.size) ∧ DirtAt w' (.slice ao d.length cc) d ∧ d.Perm (dirtL S.fs) ∧ d.Pairwise (fun x y => x.1 ≤ y.1) ∧ Below w.heap.size w w' := by
 have c2 := h.c2
 have hm64 := h.f2
 have H := hide h
 clear h
 go_enter Tryz.func89, Tryz.ntmps89
 go_wp2
 go_loopw [11, 3] (fun i v wr => ∃ k : Nat, k ≤ S.fs.length ∧ i = .int .i64 k ∧ Off [] w wr ∧ wr.ownsRow 0 142 2 v (dirtL (S.fs.take k)).length (cellsD (dirtL (S.fs.take k))) ∧ (∀ b, v.ownBlock = some b → w.heap.size ≤ b)) (fun i _ _ => S.fs.length - (intOf i).toNat)
 case atStart => exact ⟨0, by omega, rfl, Off.refl _ _, ⟨by simp [dirtL, cellsD], .inl ⟨rfl, by simp [dirtL]⟩⟩, fun b hb => by simp [Value.ownBlock] at hb⟩
 case round =>
  obtain ⟨k, hk, rfl, hO, hown, hnew⟩ := hrel
  have HO := hide hO
  have HOWN := hide hown
  have HNEW := hide hnew
  clear hO hown hnew
  obtain ⟨N, hN⟩ : ∃ N, S.fs.length = N := ⟨_, rfl⟩
  by_cases hlt : k < S.fs.length
  · obtain ⟨f, hf⟩ : ∃ f, S.fs[k]? = some f := ⟨_, List.getElem?_eq_getElem hlt⟩
    have HW := hide (H.out.belowW (HO.out.below (Nat.le_refl _) (fun k hk => by simp at hk)))
    obtain ⟨v, hv, hB, _, d0, d1, d2, d3, d4, d5, d6⟩ := HW.out.cells k f hf
    have HTK : Hid (S.fs.take (k + 1) = S.fs.take k ++ [f]) := by
     show _ = _
     obtain ⟨hl, rfl⟩ := List.getElem?_eq_some_iff.1 hf
     exact List.take_succ_eq_append_getElem hl
    obtain ⟨va, vm, vc, rfl⟩ := hB.form
    have HLN := hide (Nat.le_trans (dirtL_le (S.fs.take k)) (List.length_take_le k S.fs))
    clear hf hB hv
    rw [hN] at hlt hk c2 hm64
    have HN := hide hN
    clear hN
    by_cases hd : f.dirty = true
    · rw [hd] at d4
      have HD := hide hd
      clear hd
      have HO2 : Hid (Off [] wr ((wr.alloc (.cells #[.bool f.held, .int .i64 f.page, .slice va vm vc, .bool f.asked, .bool true, .int .i64 f.rlsn, .int .i64 f.lsn] 132)).alloc (.cells #[.int .i64 f.page, .int .i64 f.rlsn] 142))) := ((Off.refl _ _).alloc _).alloc _
      have HOWN2 := hide (owns_of_block HOWN.out (fun b hb => HO2.out.block b ((HOWN.out.lt b hb).2) (by simp)))
      have HNW : Hid (((wr.alloc (.cells #[.bool f.held, .int .i64 f.page, .slice va vm vc, .bool f.asked, .bool true, .int .i64 f.rlsn, .int .i64 f.lsn] 132)).alloc (.cells #[.int .i64 f.page, .int .i64 f.rlsn] 142)).heap[wr.heap.size + 1]? = some (.cells (encD (f.page, f.rlsn)).toArray 142 (0, 0))) := by
       show _ = _
       have := heap_alloc_new (wr.alloc (.cells #[.bool f.held, .int .i64 f.page, .slice va vm vc, .bool f.asked, .bool true, .int .i64 f.rlsn, .int .i64 f.lsn] 132)) (.cells #[.int .i64 f.page, .int .i64 f.rlsn] 142)
       rw [show (wr.alloc (.cells #[.bool f.held, .int .i64 f.page, .slice va vm vc, .bool f.asked, .bool true, .int .i64 f.rlsn, .int .i64 f.lsn] 132)).heap.size = wr.heap.size + 1 by simp] at this
       exact this
      have HSRC := hide (src_of_block HNW.out)
      go_wp2_with (refine wpList_append_owned rfl _ _ 67 rfl 142 (.agg #[.int .i64 0, .int .i64 0]) 2 16 Tryz.underlying67 Tryz.info142 rfl (by omega) _ _ _ rfl HOWN2.out ⟨wr.heap.size + 1, 0, none⟩ 1 1 (encD (f.page, f.rlsn)) rfl rfl HSRC.out (by intro u hu; simp [encD] at hu; rcases hu with rfl | rfl <;> rfl) (by have := HLN.out; simp only [maxLen]; omega) (by have := HLN.out; omega) ?_; intro v4 w4 r1 r2 r3; have H4 := hide (And.intro r1 (And.intro r2 r3)); clear r1 r2 r3)
      go_roundw
      case rel =>
       have hd' : dirtL (S.fs.take (k + 1)) = dirtL (S.fs.take k) ++ [(f.page, f.rlsn)] := by rw [HTK.out, dirtL_snoc, if_pos HD.out]
       have hO4 := (HO.out.trans (fp' := []) (HO2.out) (fun i hi => by simp at hi))
       refine ⟨k + 1, by rw [HN.out]; omega, by go_num, hO4.grown H4.out.2.1 (fun b hb => .inr (HNEW.out b hb)), ?_, fun b hb => ?_⟩
       · rw [hd', List.length_append, cellsD_snoc]
         exact H4.out.1
       · rcases H4.out.2.2 b hb with h1 | h1
         · exact HNEW.out b h1
         · have := hO4.size; omega
      case measure => rw [HN.out]; simp [intOf]; omega
    · have hd' : f.dirty = false := by simpa using hd
      rw [hd'] at d4
      have HD := hide hd
      clear hd hd'
      have HO2 : Hid (Off [] wr (wr.alloc (.cells #[.bool f.held, .int .i64 f.page, .slice va vm vc, .bool f.asked, .bool false, .int .i64 f.rlsn, .int .i64 f.lsn] 132))) := (Off.refl _ _).alloc _
      go_wp2
      go_roundw
      case rel =>
       have hd' : dirtL (S.fs.take (k + 1)) = dirtL (S.fs.take k) := by rw [HTK.out, dirtL_snoc, if_neg HD.out]
       refine ⟨k + 1, by rw [HN.out]; omega, by go_num, HO.out.trans (fp' := []) HO2.out (fun i hi => by simp at hi), ?_, HNEW.out⟩
       rw [hd']
       exact owns_of_block HOWN.out (fun b hb => HO2.out.block b ((HOWN.out.lt b hb).2) (by simp))
      case measure => rw [HN.out]; simp [intOf]; omega
  · have hk' : k = S.fs.length := by omega
    have hfull : S.fs.take k = S.fs := by rw [hk', List.take_length]
    rw [hfull] at HOWN
    have HB := hide (HO.out.below (Nat.le_refl _) (fun k hk => by simp at hk))
    clear hfull
    obtain ⟨hl, hcase⟩ := HOWN.out
    rcases hcase with ⟨rfl, hn0⟩ | ⟨g, cap, cur, rfl, hg0, hblk, hnc, hcm, hcs, htk⟩
    · have HS := hide (fun W => sort_none none 0 (.func (.func 118) #[] #[]) W)
      have hnil : dirtL S.fs = [] := List.eq_nil_of_length_eq_zero hn0
      have HNI := hide hnil
      clear hnil hn0 hl HOWN
      go_wp2_with (go_at_call 117; refine (HS.out _).mono ?_; rintro e w' ⟨rfl, hw⟩; have hw := hw.symm; subst hw)
      go_ret
      refine ⟨none, 0, [], rfl, ⟨Nat.le_refl _, by simp [maxLen], fun b hb => by simp [Value.ownBlock] at hb⟩, ⟨none, 0, rfl, fun j x hx => by simp at hx⟩, by rw [HNI.out], List.Pairwise.nil, HB.out⟩
    · have hH := holds_of_owns hblk htk
      have HS := hide (sort_any g cap (dirtL S.fs).toArray wr hH (Array.getElem?_eq_some_iff.1 hblk).1 (by simpa using h12))
      have hgn : w.heap.size ≤ g := HNEW.out g rfl
      have HSZ : Hid ((dirtL S.fs).toArray.size = (dirtL S.fs).length) := by show _ = _; simp
      rw [HSZ.out] at HS
      obtain ⟨L, hL⟩ : ∃ L, (dirtL S.fs).length = L := ⟨_, rfl⟩
      rw [hL] at HS HSZ
      have HL := hide hL
      have HGL := hide ((Array.getElem?_eq_some_iff.1 hblk).1)
      have HCC : Hid ((dirtL S.fs).length ≤ cap ∧ cap ≤ maxLen) := ⟨hnc, hcm⟩
      rw [hL] at HCC
      clear hl HOWN hblk hnc hcm hcs htk hH HNEW
      rw [hL]
      clear hL
      go_wp2_with (go_at_call 117; refine HS.out.mono ?_; rintro e w5 ⟨rfl, d', hp, hs', hpw, hH', hO5⟩; have H5 := hide (And.intro hp (And.intro hs' (And.intro hpw (And.intro hH' hO5)))); clear hp hs' hpw hH' hO5)
      go_ret
      have hO5 := H5.out.2.2.2.2
      have hdl : d'.toList.length = L := by rw [Array.length_toList, H5.out.2.1]
      refine ⟨some ⟨g, 0, none⟩, cap, d'.toList, by rw [hdl]; rfl, ⟨by rw [hdl]; exact HCC.out.1, HCC.out.2, fun b hb => by simp [Value.ownBlock] at hb; have := hO5.size; have := HGL.out; omega⟩, ?_, by simpa using H5.out.1, H5.out.2.2.1, HB.out.trans (hO5.below HB.out.size (fun k hk => by simp at hk; omega))⟩
      have := dirt_of_holds (c := cap) H5.out.2.2.2.1
      rw [← Array.length_toList] at this
      exact this
end
end Go.Proofs.YteeembildppgmaaGreat
