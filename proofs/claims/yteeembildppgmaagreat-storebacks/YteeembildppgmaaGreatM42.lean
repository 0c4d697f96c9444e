/- A part of it: SRoom SBgc SBcS SBcT. -/
import Derived.Test.YteeembildppgmaaGreatM41
import Derived.Test.YteeembildppgmaaGreatM39
import Derived.Test.YteeembildppgmaaGreatM38
import Derived.Test.YteeembildppgmaaGreatM40
import Derived.Test.YteeembildppgmaaGreatM28
import Derived.BigQuiet
namespace Go.Proofs.YteeembildppgmaaGreat
open Go.RowKit
set_option linter.unusedVariables false
set_option linter.unusedSimpArgs false
section
variable {w0 w w' : World} {s : Nat} {c : Cf} {xs tb : List Nat} {ov : Value} {ps : List Nat} {uvs : List Value} {S : St} {V : Nat → List UInt8}
set_option maxHeartbeats 1000000 in
set_option maxRecDepth 100000 in
theorem pinned_none (h : StIs w0 w s c xs tb ov ps uvs S) (hn0 : S.txs = []) :
 Calls Tryz.prog 54 #[.pointer (some ⟨s, 0, none⟩)] w fun e w' => e = .returned (.bool false) ∧ Below w.heap.size w w' := by
 obtain ⟨oa, oc, rfl⟩ := h.ovlen
 have c4 := h.c4
 rw [hn0] at c4
 have HEND := hide (fun n => below_drewN w.heap.size w n)
 clear h hn0
 go_enter Tryz.func54, Tryz.ntmps54
 go_upto_region 1 with fail
 go_quiet (fail)
 go_wp2
 go_ret
 exact ⟨rfl, HEND.out _⟩
theorem room_ck (R : Rg) (T n f : Nat) (l : List UInt8) (hl : l.length ≤ 288) (hn : 25 ≤ n) : 2336 ≤ Rg.room { R with start := T, held := l, fin := f, n := n } := by
 show 2336 ≤ (T / 118 + n - 1) * 118 - (T + l.length)
 omega
set_option maxHeartbeats 400000 in
theorem makeRoom_ck (h : StIs w0 w s c xs tb ov ps uvs S) (hn0 : S.txs = []) (hf : ¬ (288 + S.res + 2048 ≤ S.R.room)) (hi : PInv c.n S.pool V) (hwr : S.pool.wr + 12 ≤ 1000000) (hdl : (dirtL S.pool.fs).length ≤ 12) (rs : List Enc.Rc) (hrs : S.R.held = encs rs) (hgd : ∀ R ∈ rs, R.good) (hroom : 288 ≤ S.R.room) (hlg : 25 ≤ S.R.n) (htl : S.R.tail ≤ 2199023255552) (hm : S.master < 2199023255552) (hc : S.commits < 4611686018427387904) (hn : S.next < 4611686018427387904) :
 Calls Tryz.prog 28 #[.pointer (some ⟨s, 0, none⟩), .int .i64 ((288 : Nat) : Int)] w fun e w' => e = .returned (.int .i64 0) ∧ ∃ pl, StIs w0 w' s c xs tb ov ps uvs { S with pool := pl, master := S.master + 1 } ∧ 2336 ≤ Rg.room pl.fo.1 ∧ Rg.tail pl.fo.1 ≤ S.R.tail + 288 ∧ Kept (tb ++ xs) w w' := by
 have hr0 : S.res = 0 := by show resT S.txs = 0; rw [hn0]; rfl
 have HF := hide (fits_any h (by omega) 288 (by omega))
 rw [decide_eq_false hf] at HF
 have HP : Hid (∀ W, Below w.heap.size w W → Calls Tryz.prog 54 #[.pointer (some ⟨s, 0, none⟩)] W fun e w' => e = .returned (.bool false) ∧ Below W.heap.size W w') := fun W hW => pinned_none (h.belowW hW) hn0
 have HCK : Hid (∀ W, Below w.heap.size w W → _) := fun W hW => checkpoint_none (h.belowW hW) hn0 hi hwr hdl rs hrs hgd hroom htl hm hc hn
 have H := hide h
 have HLG := hide hlg
 clear h hf hi hwr hdl hrs hgd hroom hlg htl hm hc hn
 go_enter Tryz.func28, Tryz.ntmps28
 go_wp2_with (first
  | (go_at_call 53; refine HF.out.mono ?_; rintro e w2 ⟨rfl, hb2⟩; have HB2 := hide hb2; clear hb2 HF)
  | (go_at_call 54; refine (HP.out w2 HB2.out).mono ?_; rintro e w3 ⟨rfl, hb3⟩; have HB3 := hide (HB2.out.trans (hb3.mono HB2.out.size)); clear hb3)
  | (go_at_call 55; refine (HCK.out w3 HB3.out).mono ?_; rintro e w4 ⟨rfl, pl, d, h4, hi4, hR4, hd4, hw4, hl4, hk4⟩
     have hrm : 2336 ≤ Rg.room pl.fo.1 := by rw [hR4]; exact room_ck S.R _ S.R.n _ _ (by rw [Enc.length_enc]; show 96 + 0 + 0 + 24 * 0 + 16 * d.length ≤ _; omega) HLG.out
     have htl4 : Rg.tail pl.fo.1 ≤ S.R.tail + 288 := by rw [hR4]; show S.R.tail + (ckRc d S.commits).enc.length ≤ _; rw [Enc.length_enc]; show _ + (96 + 0 + 0 + 24 * 0 + 16 * d.length) ≤ _; omega
     have HF2 := fits_any h4 (by show S.res ≤ _; omega) 288 (by omega)
     rw [decide_eq_true (by show 288 + S.res + 2048 ≤ Rg.room pl.fo.1; omega)] at HF2
     have H4 := hide (And.intro h4 (And.intro hrm (And.intro htl4 hk4)))
     have HF2 := hide HF2
     clear h4 hi4 hR4 hd4 hw4 hl4 hk4 hrm htl4)
  | (go_at_call 53; refine HF2.out.mono ?_; rintro e w5 ⟨rfl, hb5⟩; have HB5 := hide hb5; clear hb5))
 go_ret
 refine ⟨rfl, pl, H4.out.1.belowW HB5.out, H4.out.2.1, H4.out.2.2.1, ?_⟩
 exact Kept.trans ⟨HB3.out.size, fun k hk => HB3.out.block k (H.out.lts (by simp only [List.mem_cons]; exact .inr hk))⟩ (H4.out.2.2.2.trans ⟨HB5.out.size, fun k hk => HB5.out.block k (H4.out.1.lts (by simp only [List.mem_cons]; exact .inr hk))⟩)
end
end Go.Proofs.YteeembildppgmaaGreat
namespace Go.Proofs.YteeembildppgmaaGreat
open Go.RowKit
set_option linter.unusedVariables false
set_option linter.unusedSimpArgs false
section
variable {w0 w w' : World} {s : Nat} {c : Cf} {xs tb : List Nat} {ov : Value} {ps : List Nat} {uvs : List Value} {S : St} {V : Nat → List UInt8}
set_option maxHeartbeats 400000 in
theorem begin_ck (h : StIs w0 w s c xs tb ov ps uvs S) (hn0 : S.txs = []) (hi : PInv c.n S.pool V) (hwr : S.pool.wr + 12 ≤ 1000000) (hdl : (dirtL S.pool.fs).length ≤ 12) (rs : List Enc.Rc) (hrs : S.R.held = encs rs) (hgd : ∀ R ∈ rs, R.good) (hroom : 288 ≤ S.R.room) (hlg : 25 ≤ S.R.n) (htl : S.R.tail ≤ 2199023255552) (hm : S.master < 2199023255552) (hc : S.commits < 4611686018427387904) (hnx : S.next ≤ 1000000000) :
 Calls Tryz.prog 10 #[.pointer (some ⟨s, 0, none⟩)] w fun e w' => e = .returned (.tuple #[.int .i64 (S.next : Int), .int .i64 0]) ∧ (∃ S', StAt w0 w' s c xs S') ∧ Kept xs w w' := by
 have hr0 : S.res = 0 := by show resT S.txs = 0; rw [hn0]; rfl
 by_cases hf : 288 + S.res + 2048 ≤ S.R.room
 · refine (begin_ok h (by omega) hf hnx (by rw [hn0]; simp)).mono ?_
   rintro e w' ⟨rfl, h1, h2⟩
   exact ⟨rfl, ⟨_, h1⟩, h2⟩
 · obtain ⟨ao, cc, rfl⟩ := h.ovlen
   refine (begin_mk (w0 := w0) (c := c) (tb := tb) (ps := ps) (uvs := uvs) (fun _ => True) S.next S.txs.length (h.lts (by simp)) h.c10 h.c5 (fun k hk => h.lt hk) (fun k hk hm => h.tbx k (h.inO k hk) hm) (fun hm => h.sx (by simp [hm])) hnx (by rw [hn0]; simp) (fun W Q hW hQ1 hQ2 => ?_)).mono (fun e w' ⟨a1, ⟨S', _, a2⟩, a3⟩ => ⟨a1, ⟨_, a2⟩, a3⟩)
   have hq := h.mindNew (ys := Q :: xs) hW (fun k hk => by
    rcases List.mem_cons.1 hk with e | e
    · rw [e]; exact .inr ⟨hQ1, hQ2⟩
    · exact .inl e)
   refine (makeRoom_ck hq hn0 hf hi hwr hdl rs hrs hgd hroom hlg htl hm hc (by omega)).mono ?_
   rintro e w' ⟨rfl, pl, h1, h2, h3, h4⟩
   exact ⟨rfl, { S with pool := pl, master := S.master + 1 }, trivial, rfl, rfl, h1, by show 288 + S.res + 2048 ≤ Rg.room pl.fo.1; omega, Kept.trans ⟨hW.size, fun k hk => hW.block k (h.lt hk)⟩ (h4.mono (fun k hk => by simp [hk])), h4.mono (fun k hk => by simp at hk; simp [hk])⟩
end
end Go.Proofs.YteeembildppgmaaGreat
namespace Go.Proofs.YteeembildppgmaaGreat
open Go.RowKit
set_option linter.unusedVariables false
set_option linter.unusedSimpArgs false
structure BcI (c : Cf) (S : St) (T : Tn) (V : Nat → List UInt8) (rs : List Enc.Rc) (Ms : List (Nat × Dt)) (TB WB : Nat) : Prop where
 txs : S.txs = [T]
 id : T.id = 1
 inv : PInv c.n S.pool V
 held : S.R.held = encs rs
 good : ∀ R ∈ rs, R.good
 start : S.R.start = 0
 num : S.R.n = 32
 com : S.commits = 0
 bg : T.begin = 1
 nx : S.next = 2
 mst : S.master = 1
 fl : S.pool.fs.length = 8
 low : ∀ u ∈ T.ups, 1 < u.lsn
 pos : 1 ≤ S.R.tail
 goes : Goes Ms T.ups (dat V)
 rise : T.ups.Pairwise (fun a b => a.lsn < b.lsn)
 ok : UpsOk c.n T.ups
 recs : ∀ x ∈ Ms, IsRec rs x.1
 sort : Ms.Pairwise (fun a b => a.1 ≤ b.1)
 last : T.last ≤ S.R.tail
 tb : S.R.tail + resU T.ups ≤ TB
 wb : S.pool.wr + 2 * T.ups.length ≤ WB
section
variable {w0 w w' : World} {s : Nat} {c : Cf} {xs tb : List Nat} {ov : Value} {ps : List Nat} {uvs : List Value} {S : St} {T : Tn} {V : Nat → List UInt8} {rs : List Enc.Rc} {Ms : List (Nat × Dt)} {TB WB : Nat}
theorem BcI.tailE (h : BcI c S T V rs Ms TB WB) : S.R.tail = (encs rs).length := by unfold Rg.tail; rw [h.start, h.held]; omega
theorem BcI.roomE (h : BcI c S T V rs Ms TB WB) : S.R.room = 3658 - S.R.tail := by unfold Rg.room; rw [h.start, h.num]
theorem BcI.mono (h : BcI c S T V rs Ms TB WB) {TB' WB' : Nat} (h1 : TB ≤ TB') (h2 : WB ≤ WB') : BcI c S T V rs Ms TB' WB' := { h with tb := Nat.le_trans h.tb h1, wb := Nat.le_trans h.wb h2 }
theorem BcI.read (h : BcI c S T V rs Ms TB WB) {pl : Pl (Rg × List (List UInt8))} (hi : PInv c.n pl V) (hr : RS S.R pl.fo.1) {k : Nat} (hw : pl.wr ≤ S.pool.wr + k) (hfl : pl.fs.length = S.pool.fs.length) : BcI c { S with pool := pl } T V rs Ms TB (WB + k) := by
 have eR : St.R { S with pool := pl } = pl.fo.1 := rfl
 refine { h with inv := hi, fl := hfl.trans h.fl, pos := by rw [eR, hr.tail]; exact h.pos, held := by rw [eR, hr.held]; exact h.held, start := by rw [eR, hr.start]; exact h.start, num := ?_, last := by rw [eR, hr.tail]; exact h.last, tb := by rw [eR, hr.tail]; exact h.tb, wb := by have := h.wb; show pl.wr + _ ≤ _; omega }
 obtain ⟨f, hf⟩ := hr
 rw [eR, hf]
 exact h.num
theorem BcI.mark (h : BcI c S T V rs Ms TB WB) (l : MkL T rs Ms) : BcI c S T V rs (Ms ++ [(T.last, dat V)]) TB WB ∧ MkL T rs (Ms ++ [(T.last, dat V)]) := by
 refine ⟨{ h with goes := h.goes.here T.last l.le, recs := fun x hx => ?_, sort := ?_ }, ⟨l.isr, l.le, fun x hx => ?_⟩⟩
 · rcases List.mem_append.1 hx with hx | hx
   · exact h.recs x hx
   · simp at hx
     subst hx
     exact l.isr
 · rw [List.pairwise_append]
   refine ⟨h.sort, by simp, fun a ha b hb => ?_⟩
   simp at hb
   subst hb
   exact l.ms a ha
 · rcases List.mem_append.1 hx with hx | hx
   · exact l.ms x hx
   · simp at hx
     subst hx
     exact Nat.le_refl _
theorem BcI.wrote (h : BcI c S T V rs Ms TB WB) (l : MkL T rs Ms) (hn : c.n ≤ 8192) (hT : TB ≤ 1000000) {pl : Pl (Rg × List (List UInt8))} (pg off : Nat) (af : List UInt8) (hp : pg < c.n) (h1 : 1 ≤ af.length) (ho : off + af.length ≤ 504)
 (hi : PInv c.n pl (fun q => if q = pg then patch (patch (V pg) 0 (be8 (S.R.tail + 1))) (8 + off) af else V q)) (hr : RS { S.R with held := S.R.held ++ ({ updRc pg off (((V pg).drop (8 + off)).take af.length) af with txn := (T.id : Int), prev := (T.last : Int) } : Enc.Rc).enc } pl.fo.1) (hw : pl.wr ≤ S.pool.wr + 3) (hfl : pl.fs.length = S.pool.fs.length) :
 ∃ T' V' rs', BcI c { S with pool := pl, txs := S.txs.set 0 { T with last := S.R.tail + 1, ups := T.ups ++ [⟨S.R.tail + 1, T.last, pg, off, ((V pg).drop (8 + off)).take af.length⟩] } } T' V' rs' Ms (TB + 192 + 3 * af.length) (WB + 5) ∧ MkL T' rs' Ms := by
 have hv := h.inv.v5 pg hp
 have hbl : (((V pg).drop (8 + off)).take af.length).length = af.length := by rw [List.length_take, List.length_drop, hv]; omega
 have hid : (T.id : Int) = 1 := by rw [h.id]; rfl
 have htl : S.R.tail ≤ 1000000 := by have := h.tb; omega
 have hla := h.last
 rw [hid] at hr
 have eR : ∀ x, St.R { S with pool := pl, txs := x } = pl.fo.1 := fun _ => rfl
 have eH : pl.fo.1.held = encs (rs ++ [({ updRc pg off (((V pg).drop (8 + off)).take af.length) af with txn := 1, prev := (T.last : Int) } : Enc.Rc)]) := by
  rw [hr.held, encs_append, encs_cons]
  show S.R.held ++ _ = _
  rw [h.held]
  simp [encs]
 have eT : pl.fo.1.tail = S.R.tail + (96 + 2 * af.length) := by
  rw [hr.tail, Rg.tail_more, len_updR, hbl]
  omega
 have eD : dat (fun q => if q = pg then patch (patch (V pg) 0 (be8 (S.R.tail + 1))) (8 + off) af else V q) = wrD pg off af (dat V) := write_dat h.inv.v5 pg off _ af hp ho
 refine ⟨{ T with last := S.R.tail + 1, ups := T.ups ++ [⟨S.R.tail + 1, T.last, pg, off, ((V pg).drop (8 + off)).take af.length⟩] }, (fun q => if q = pg then patch (patch (V pg) 0 (be8 (S.R.tail + 1))) (8 + off) af else V q), rs ++ [({ updRc pg off (((V pg).drop (8 + off)).take af.length) af with txn := 1, prev := (T.last : Int) } : Enc.Rc)], { txs := by show S.txs.set 0 _ = _; rw [h.txs]; rfl, id := h.id, inv := hi, held := by rw [eR]; exact eH, good := ?_, start := by rw [eR, hr.start]; exact h.start, num := ?_, com := h.com, bg := h.bg, nx := h.nx, mst := h.mst, fl := hfl.trans h.fl, low := fun u hu => (by rcases List.mem_append.1 hu with hu | hu; exact h.low u hu; simp at hu; subst hu; have := h.pos; show 1 < S.R.tail + 1; omega), pos := by rw [eR, eT]; have := h.pos; omega, goes := ?_, rise := ?_, ok := ?_, recs := fun x hx => (h.recs x hx).more _, sort := h.sort, last := by rw [eR, eT]; show S.R.tail + 1 ≤ _; omega, tb := ?_, wb := ?_ }, ?_⟩
 · intro R hR
   rcases List.mem_append.1 hR with hR | hR
   · exact h.good R hR
   · simp at hR
     subst hR
     exact good_upd pg off T.last _ af (by omega) (by omega) (by omega)
 · obtain ⟨f, hf⟩ := hr
   rw [eR, hf]
   exact h.num
 · rw [eD]
   refine h.goes.more ⟨S.R.tail + 1, T.last, pg, off, ((V pg).drop (8 + off)).take af.length⟩ (fun x hx => by have := l.ms x hx; show x.1 < S.R.tail + 1; omega) ?_
   have e1 : ((V pg).drop (8 + off)).take af.length = ((dat V pg).drop off).take af.length := by unfold dat; rw [List.drop_drop]
   show wrD pg off (((V pg).drop (8 + off)).take af.length) (wrD pg off af (dat V)) = dat V
   rw [e1]
   exact wrD_back pg off af (dat V) (by unfold dat; rw [List.length_drop, hv]; omega)
 · show (T.ups ++ [_]).Pairwise _
   rw [List.pairwise_append]
   refine ⟨h.rise, by simp, fun a ha b hb => ?_⟩
   simp at hb
   subst hb
   have := l.le a ha
   show a.lsn < S.R.tail + 1
   omega
 · intro u hu
   rcases List.mem_append.1 hu with hu | hu
   · exact h.ok u hu
   · simp at hu
     subst hu
     exact ⟨hp, by show 1 ≤ (((V pg).drop (8 + off)).take af.length).length; rw [hbl]; exact h1, by show off + (((V pg).drop (8 + off)).take af.length).length ≤ 504; rw [hbl]; exact ho, by show T.last ≤ _; omega⟩
 · rw [eR, eT]
   show _ + resU (T.ups ++ [_]) ≤ _
   rw [resU_snoc]
   have := h.tb
   have e2 : Up.sz ⟨S.R.tail + 1, T.last, pg, off, ((V pg).drop (8 + off)).take af.length⟩ = 96 + af.length := by show 96 + (((V pg).drop (8 + off)).take af.length).length = _; rw [hbl]
   rw [e2]
   omega
 · show pl.wr + 2 * (T.ups ++ [_]).length ≤ _
   have := h.wb
   simp
   omega
 · refine ⟨?_, fun u hu => ?_, fun x hx => ?_⟩
   · show IsRec _ (S.R.tail + 1)
     rw [h.tailE]
     exact IsRec.last rs _ rfl
   · show u.lsn ≤ S.R.tail + 1
     rcases List.mem_append.1 hu with hu | hu
     · have := l.le u hu
       omega
     · simp at hu
       subst hu
       exact Nat.le_refl _
   · have := l.ms x hx
     show x.1 ≤ S.R.tail + 1
     omega
theorem BcI.back (h : BcI c S T V rs Ms TB WB) (hn : c.n ≤ 8192) (hT : TB ≤ 1000000) (m : Nat) (Dm : Dt) (hm : (m, Dm) ∈ Ms) (hl : ∀ x ∈ Ms, x.1 ≤ m) {pl : Pl (Rg × List (List UInt8))}
 (hi : PInv c.n pl (rbV (behind m T.ups).reverse S.R.tail V)) (hr : RS { S.R with held := S.R.held ++ rbH (behind m T.ups).reverse T.id S.R.tail T.last } pl.fo.1) (hw : pl.wr ≤ S.pool.wr + 2 * (behind m T.ups).length) (hfl : pl.fs.length = S.pool.fs.length) :
 ∃ T' V' rs', BcI c { S with pool := pl, txs := [⟨T.id, T.begin, rbL (behind m T.ups).reverse S.R.tail T.last, upTo m T.ups⟩] } T' V' rs' Ms TB WB ∧ dat V' = Dm := by
 have hs := rise_split T.ups m h.rise
 have okb : UpsOk c.n (behind m T.ups).reverse := fun u hu => h.ok u (List.mem_filter.1 (List.mem_reverse.1 hu)).1
 have eD : dat (rbV (behind m T.ups).reverse S.R.tail V) = undL (behind m T.ups).reverse (dat V) := rb_dat _ _ V h.inv.v5 okb
 have erv : resU (behind m T.ups).reverse = resU (behind m T.ups) := by unfold resU; rw [List.map_reverse, List.sum_reverse]
 have esum : resU T.ups = resU (upTo m T.ups) + resU (behind m T.ups) := by conv => lhs; rw [hs, resU_append]
 have elen : T.ups.length = (upTo m T.ups).length + (behind m T.ups).length := by conv => lhs; rw [hs, List.length_append]
 have htb := h.tb
 have hla := h.last
 have eR : ∀ x, St.R { S with pool := pl, txs := x } = pl.fo.1 := fun _ => rfl
 have eT : pl.fo.1.tail = S.R.tail + resU (behind m T.ups) := by rw [hr.tail, Rg.tail_more, len_rbH, erv]
 have hid : T.id = 1 := h.id
 refine ⟨⟨T.id, T.begin, rbL (behind m T.ups).reverse S.R.tail T.last, upTo m T.ups⟩, rbV (behind m T.ups).reverse S.R.tail V, rs ++ rbR (behind m T.ups).reverse S.R.tail T.last, { txs := rfl, id := h.id, inv := hi, held := ?_, good := ?_, start := by rw [eR, hr.start]; exact h.start, num := ?_, com := h.com, bg := h.bg, nx := h.nx, mst := h.mst, fl := hfl.trans h.fl, low := fun u hu => h.low u (List.mem_filter.1 hu).1, pos := by rw [eR, eT]; have := h.pos; omega, goes := ?_, rise := h.rise.filter _, ok := fun u hu => h.ok u (List.mem_filter.1 hu).1, recs := fun x hx => (h.recs x hx).more _, sort := h.sort, last := ?_, tb := ?_, wb := ?_ }, ?_⟩
 · rw [eR, hr.held, encs_append, encs_rbR]
   show S.R.held ++ _ = _
   rw [h.held, hid]
 · intro R hR
   rcases List.mem_append.1 hR with hR | hR
   · exact h.good R hR
   · exact good_rbR hn _ _ _ okb (by omega) (by rw [erv]; omega) R hR
 · obtain ⟨f, hf⟩ := hr
   rw [eR, hf]
   exact h.num
 · rw [eD]
   exact h.goes.back m h.rise hl
 · rw [eR, eT, ← erv]
   exact rbL_le _ _ _ hla
 · rw [eR, eT]
   show _ + resU (upTo m T.ups) ≤ TB
   omega
 · show pl.wr + 2 * (upTo m T.ups).length ≤ WB
   have := h.wb
   omega
 · rw [eD]
   exact h.goes (m, Dm) hm
end
end Go.Proofs.YteeembildppgmaaGreat
namespace Go.Proofs.YteeembildppgmaaGreat
open Go.RowKit
set_option linter.unusedVariables false
set_option linter.unusedSimpArgs false
section
variable {w0 w w' : World} {s : Nat} {c : Cf} {xs tb : List Nat} {ov : Value} {ps : List Nat} {uvs : List Value} {S : St} {T : Tn} {V : Nat → List UInt8} {rs : List Enc.Rc} {Ms : List (Nat × Dt)} {TB WB : Nat}
theorem bc_begin (h : StIs w0 w s c xs tb ov ps uvs S) (z : S.txs = []) (hi : PInv c.n S.pool V) (hh : S.R.held = []) (h0 : S.R.start = 0) (hnn : S.R.n = 32) (hx : S.next = 1) (hc : S.commits = 0) (hm : S.master = 1) (hf : S.pool.fs.length = 8) (hw : S.pool.wr ≤ 5) :
 Calls Tryz.prog 10 #[.pointer (some ⟨s, 0, none⟩)] w fun e w' => e = .returned (.tuple #[.int .i64 1, .int .i64 0]) ∧ ∃ S' T rs, StAt w0 w' s c xs S' ∧ BcI c S' T V rs [(1, dat V)] 1418 5 ∧ MkL T rs [(1, dat V)] ∧ Kept xs w w' := by
 have hr0 : S.res = 0 := by show resT S.txs = 0; rw [z]; rfl
 refine (begin_ok h (by omega) (by rw [hr0]; unfold Rg.room Rg.tail; rw [hh, h0, hnn]; simp) (by omega) (by rw [z]; simp)).mono ?_
 rintro e w' ⟨rfl, h1, hk⟩
 have hl : (beginRc 1).enc.length = 96 := by rw [Enc.length_enc]; rfl
 have ht0 : S.R.tail = 0 := by unfold Rg.tail; rw [hh, h0]; rfl
 have ht : S.begun.R.tail = 96 := by
  show S.R.start + (S.R.held ++ (beginRc S.next).enc).length = 96
  rw [hh, h0, hx, List.nil_append, hl]
 have I0 : BcI c S.begun ⟨1, 1, 1, []⟩ V [beginRc 1] [] 1418 5 := { txs := by show S.txs ++ [_] = _; rw [z, hx, ht0]; rfl, id := rfl, inv := hi.setR _, held := by show S.R.held ++ (beginRc S.next).enc = encs [beginRc 1]; rw [hh, hx]; simp [encs], good := ?_, start := h0, num := hnn, com := hc, bg := rfl, nx := by show S.next + 1 = 2; omega, mst := hm, fl := hf, low := fun u hu => (by cases hu), pos := by rw [ht]; omega, goes := fun x hx => (by cases hx), rise := List.Pairwise.nil, ok := fun u hu => (by cases hu), recs := fun x hx => (by cases hx), sort := List.Pairwise.nil, last := by rw [ht]; show 1 ≤ 96; omega, tb := by rw [ht]; show 96 + 0 ≤ 1418; omega, wb := by show S.pool.wr + 2 * 0 ≤ 5; omega }
 · have L0 : MkL ⟨1, 1, 1, []⟩ [beginRc 1] [] := ⟨IsRec.last [] (beginRc 1) rfl, fun u hu => (by cases hu), fun x hx => (by cases hx)⟩
   obtain ⟨I1, L1⟩ := I0.mark L0
   rw [hx]
   exact ⟨rfl, _, _, _, h1, I1, L1, hk⟩
 · intro R hR
   simp at hR
   subst hR
   exact good_head (fun x hx => by
    simp only [Enc.Rc.head, beginRc, List.mem_cons, List.not_mem_nil, or_false] at hx
    unfold Enc.fits
    omega) rfl rfl rfl
theorem bc_write (h : StIs w0 w s c xs tb ov ps uvs S) (I : BcI c S T V rs Ms 1418 WB) (L : MkL T rs Ms) (hn : c.n = 22) (hW : WB ≤ 10000) (pg off : Nat) (hp : pg < 5) (ho : off ≤ 255) (da : Option Addr) (n dc : Nat) (bs : List UInt8) (hl : bs.length = n) (h200 : n ≤ 200) (hd : n ≤ dc) (hm : dc ≤ maxLen)
 (hr : 0 < n → ∃ g o, da = some ⟨g, o, none⟩ ∧ g < w0.heap.size ∧ w.rangeAt g o (secCells bs)) :
 Calls Tryz.prog 13 #[.pointer (some ⟨s, 0, none⟩), .int .i64 1, .int .i64 (pg : Int), .int .i64 (off : Int), .slice da n dc] w fun e w' => (e = .returned (.int .i64 0) ∨ e = .returned (.int .i64 60)) ∧ ∃ S' T' V' rs', StAt w0 w' s c xs S' ∧ BcI c S' T' V' rs' Ms 1418 (WB + 5) ∧ MkL T' rs' Ms ∧ Kept xs w w' := by
 have hTx : S.txs[0]? = some T := by rw [I.txs]; rfl
 obtain ⟨gg, x, uv, vs, cc, hov, hx, hu, t, hcell⟩ := h.txAt 0 _ hTx
 have hno : ∀ (j : Nat) U, j < 0 → S.txs[j]? = some U → U.id ≠ T.id := fun j U hj => by omega
 have hid : (1 : Int) = (T.id : Int) := by rw [I.id]; rfl
 have hbz := fun k => busy_one h (by rw [I.txs]; rfl) x hx (pg : Int) (off : Int) k
 have hwb := I.wb
 have htb := I.tb
 have hla := I.last
 rcases Nat.eq_zero_or_pos n with h0 | h0
 · subst h0
   refine (swrite_zero h hx hTx hu hno 1 hid pg off da dc (by omega) (by omega) (hbz 0)).mono ?_
   rintro e w' ⟨rfl, hb⟩
   exact ⟨.inl rfl, S, T, V, rs, (h.belowW hb).at, I.mono (by omega) (by omega), L, ⟨hb.size, fun k hk => hb.block k (h.lt hk)⟩⟩
 · obtain ⟨g, o, rfl, hg, hrg⟩ := hr h0
   have hby : ByteSrc w0 w xs g o dc bs := ⟨by rw [hl]; exact hd, hm, .inr hg, hrg⟩
   have hres : S.res = 192 + resU T.ups := by show resT S.txs = _; rw [I.txs]; simp [resT, Tn.res]
   by_cases hq : ((V pg).drop (8 + off)).take n = bs
   · refine (swrite_eqR h hx hTx hu hno I.inv (by omega) 1 hid pg off n g o dc bs hl hby (by omega) h0 (by omega) (by rw [hres]; omega) (by rw [I.id]; omega) (by omega) (hbz _) hq).mono ?_
     rintro e w' ⟨rfl, pl, k1, k2, k3, k4, k5, k6⟩
     exact ⟨.inl rfl, _, T, V, rs, k1, (I.read k2 k3 k4 k5).mono (by omega) (by omega), L, k6⟩
   · by_cases hroom : 192 + 3 * n + S.res + 2048 ≤ S.R.room
     · refine (swrite_ne h hx hTx hu hno I.inv (by omega) 1 hid pg off n g o dc bs hl hby (by omega) h0 (by omega) (by rw [hres]; omega) hroom (by rw [I.id]; omega) (by omega) (hbz _) hq).mono ?_
       rintro e w' ⟨rfl, pl, k1, k2, k3, k4, k5, k6⟩
       subst hl
       have I0 : BcI c S T V rs Ms (S.R.tail + resU T.ups) WB := { I with tb := Nat.le_refl _ }
       obtain ⟨T', V', rs', I', L'⟩ := I0.wrote L (by omega) (by omega) pg off bs (by omega) h0 (by omega) k2 k3 k4 k5
       rw [I.roomE, hres] at hroom
       exact ⟨.inl rfl, _, T', V', rs', k1, I'.mono (by omega) (Nat.le_refl _), L', k6⟩
     · refine (swrite_full h hx hTx hu hno I.inv (by omega) 1 hid pg off n g o dc bs hl hby (by omega) h0 (by omega) (by rw [hres]; omega) hroom T hTx (by rw [I.bg, I.start]) (by rw [I.bg]; omega) (by rw [I.id]; omega) (by omega) (hbz _) hq).mono ?_
       rintro e w' ⟨rfl, pl, k1, k2, k3, k4, k5, k6⟩
       exact ⟨.inr rfl, _, T, V, rs, k1, (I.read k2 k3 k4 k5).mono (by omega) (by omega), L, k6⟩
theorem bc_back (h : StIs w0 w s c xs tb ov ps uvs S) (I : BcI c S T V rs Ms 1418 WB) (hn : c.n = 22) (hW : WB ≤ 10000) (m : Nat) (Dm : Dt) (hm : (m, Dm) ∈ Ms) (hl : ∀ x ∈ Ms, x.1 ≤ m) :
 Calls Tryz.prog 14 #[.pointer (some ⟨s, 0, none⟩), .int .i64 1, .int .i64 (m : Int)] w fun e w' => e = .returned (.int .i64 0) ∧ ∃ S' T' V' rs', StAt w0 w' s c xs S' ∧ BcI c S' T' V' rs' Ms 1418 WB ∧ dat V' = Dm ∧ Kept xs w w' := by
 have hwb := I.wb
 have htb := I.tb
 have hla := I.last
 have hs := rise_split T.ups m I.rise
 have hlen := length_resU T.ups
 have esum : resU T.ups = resU (upTo m T.ups) + resU (behind m T.ups) := by conv => lhs; rw [hs, resU_append]
 have elen : T.ups.length = (upTo m T.ups).length + (behind m T.ups).length := by conv => lhs; rw [hs, List.length_append]
 obtain ⟨j, R, hj, hR, hjm⟩ := I.recs _ hm
 refine (back_one h I.txs (upTo m T.ups) (behind m T.ups) hs I.inv (fun u hu => I.ok u (List.mem_filter.1 hu).1) (by rw [I.roomE]; omega) (by rw [I.id]; omega) (by omega) (by omega) (by omega) 1 (by rw [I.id]; rfl) rs I.held I.good j R hj (by rw [I.id]; exact hR) m (by rw [I.start, Nat.zero_add]; exact hjm) (fun u hu => by have := (List.mem_filter.1 hu).2; simpa using this) (fun u hu => by have := (List.mem_filter.1 hu).2; simpa using this)).mono ?_
 rintro e w' ⟨rfl, pl, k1, k2, k3, k4, k5, k6⟩
 obtain ⟨T', V', rs', I', hD⟩ := I.back (by omega) (by omega) m Dm hm hl k2 k5 k3 k4
 exact ⟨rfl, _, T', V', rs', k1, I', hD, k6⟩
theorem bc_area (h : StIs w0 w s c xs tb ov ps uvs S) (I : BcI c S T V rs Ms TB WB) (hn : c.n = 22) (hW : WB ≤ 10000) :
 Calls Tryz.prog 12 #[.pointer (some ⟨s, 0, none⟩), .int .i64 5] w fun e w' => e = .returned (.tuple #[.string (strOf (areaN (dat V) 5)), .bool true]) ∧ ∃ S', StIs w0 w' s c xs tb ov ps uvs S' ∧ BcI c S' T V rs Ms TB (WB + 5) ∧ Kept xs w w' := by
 have hwb := I.wb
 refine (area5_ok h I.inv (by omega) (by omega)).mono ?_
 rintro e w' ⟨rfl, ⟨pl, k1, k2, k3, k4, k5⟩, kk⟩
 exact ⟨rfl, _, k1, I.read k2 k3 k4 k5, kk.mono (fun k hk => by simp [hk])⟩
structure BcE (c : Cf) (S : St) (V : Nat → List UInt8) (rs : List Enc.Rc) : Prop where
 txs : S.txs = []
 inv : PInv c.n S.pool V
 held : S.R.held = encs rs
 good : ∀ R ∈ rs, R.good
 start : S.R.start = 0
 num : S.R.n = 32
 tail : S.R.tail ≤ 1610
 com : S.commits = 0
 nx : S.next = 2
 mst : S.master = 1
 fl : S.pool.fs.length = 8
 wr : S.pool.wr ≤ 11000
theorem bc_roll (h : StIs w0 w s c xs tb ov ps uvs S) (I : BcI c S T V rs Ms 1418 WB) (hn : c.n = 22) (hW : WB ≤ 10000) (D0 : Dt) (hm : (1, D0) ∈ Ms) :
 Calls Tryz.prog 26 #[.pointer (some ⟨s, 0, none⟩), .int .i64 1] w fun e w' => e = .returned (.int .i64 0) ∧ ∃ S' V' rs', StAt w0 w' s c xs S' ∧ BcE c S' V' rs' ∧ dat V' = D0 ∧ Kept xs w w' := by
 have hwb := I.wb
 have htb := I.tb
 have hla := I.last
 refine (rollback_one h I.txs I.inv I.ok (by rw [I.roomE]; omega) (by rw [I.id]; omega) (by omega) (by omega) 1 (by rw [I.id]; rfl)).mono ?_
 rintro e w' ⟨rfl, pl, k1, k2, k3, k4, k5, k6⟩
 have hid : T.id = 1 := I.id
 rw [hid] at k5
 have eb : behind 1 T.ups = T.ups := List.filter_eq_self.2 (fun u hu => by have := I.low u hu; simpa using this)
 have okr : UpsOk c.n T.ups.reverse := fun u hu => I.ok u (List.mem_reverse.1 hu)
 have erv : resU T.ups.reverse = resU T.ups := by unfold resU; rw [List.map_reverse, List.sum_reverse]
 have hD := I.goes (1, D0) hm
 rw [show (behind (1, D0).1 T.ups) = T.ups from eb] at hD
 have l5 : ({ bareRc 5 with txn := ((1 : Nat) : Int), prev := (T.last : Int) } : Enc.Rc).enc.length = 96 := by rw [Enc.length_enc]; rfl
 have l6 : ∀ p : Int, ({ bareRc 6 with txn := ((1 : Nat) : Int), prev := p } : Enc.Rc).enc.length = 96 := fun p => by rw [Enc.length_enc]; rfl
 have lh : (rbH T.ups.reverse 1 (S.R.tail + 96) (S.R.tail + 1)).length = resU T.ups := by rw [len_rbH, erv]
 have hrl : rbL T.ups.reverse (S.R.tail + 96) (S.R.tail + 1) ≤ S.R.tail + 96 + resU T.ups := by
  have := rbL_le T.ups.reverse (S.R.tail + 96) (S.R.tail + 1) (by omega)
  rw [erv] at this
  exact this
 refine ⟨rfl, _, _, rs ++ [{ bareRc 5 with txn := ((1 : Nat) : Int), prev := (T.last : Int) }] ++ rbR T.ups.reverse (S.R.tail + 96) (S.R.tail + 1) ++ [{ bareRc 6 with txn := ((1 : Nat) : Int), prev := ((rbL T.ups.reverse (S.R.tail + 96) (S.R.tail + 1) : Nat) : Int) }], k1, { txs := rfl, inv := k2, held := ?_, good := ?_, start := k5.start.trans I.start, num := ?_, tail := ?_, com := I.com, nx := I.nx, mst := I.mst, fl := k4.trans I.fl, wr := by show pl.wr ≤ _; omega }, ?_, k6⟩
 · show pl.fo.1.held = _
   rw [k5.held, encs_append, encs_append, encs_append, encs_rbR, ← I.held]
   simp [encs]
 · intro R hR
   rcases List.mem_append.1 hR with hR | hR
   · rcases List.mem_append.1 hR with hR | hR
     · rcases List.mem_append.1 hR with hR | hR
       · exact I.good R hR
       · simp at hR
         subst hR
         exact good_head (fun x hx => by
          simp only [Enc.Rc.head, bareRc, List.mem_cons, List.not_mem_nil, or_false] at hx
          unfold Enc.fits
          omega) rfl rfl rfl
     · exact good_rbR (by omega) _ _ _ okr (by omega) (by rw [erv]; omega) R hR
   · simp at hR
     subst hR
     exact good_head (fun x hx => by
      simp only [Enc.Rc.head, bareRc, List.mem_cons, List.not_mem_nil, or_false] at hx
      unfold Enc.fits
      omega) rfl rfl rfl
 · obtain ⟨f, hf⟩ := k5
   show pl.fo.1.n = 32
   rw [hf]
   exact I.num
 · show pl.fo.1.tail ≤ _
   rw [k5.tail]
   show S.R.start + (S.R.held ++ _ ++ _ ++ _).length ≤ _
   rw [List.length_append, List.length_append, List.length_append, l5, l6, lh]
   have e : S.R.tail = S.R.start + S.R.held.length := rfl
   omega
 · rw [rb_dat _ _ V I.inv.v5 okr]
   exact hD
theorem bc_area2 (h : StIs w0 w s c xs tb ov ps uvs S) (E : BcE c S V rs) (hn : c.n = 22) :
 Calls Tryz.prog 12 #[.pointer (some ⟨s, 0, none⟩), .int .i64 5] w fun e w' => e = .returned (.tuple #[.string (strOf (areaN (dat V) 5)), .bool true]) ∧ ∃ S', StIs w0 w' s c xs tb ov ps uvs S' ∧ BcE c { S' with pool := { S'.pool with wr := 0 } } V rs ∧ S'.pool.wr ≤ 11005 ∧ Kept xs w w' := by
 have hwb := E.wr
 refine (area5_ok h E.inv (by omega) (by omega)).mono ?_
 rintro e w' ⟨rfl, ⟨pl, k1, k2, k3, k4, k5⟩, kk⟩
 refine ⟨rfl, _, k1, { txs := E.txs, inv := ⟨k2.dl, k2.v5, k2.un, k2.he, k2.inj, k2.out, k2.hand, k2.rl⟩, held := k3.held.trans E.held, good := E.good, start := k3.start.trans E.start, num := ?_, tail := by show pl.fo.1.tail ≤ _; rw [k3.tail]; exact E.tail, com := E.com, nx := E.nx, mst := E.mst, fl := k5.trans E.fl, wr := Nat.zero_le _ }, by show pl.wr ≤ _; omega, kk.mono (fun k hk => by simp [hk])⟩
 obtain ⟨f, hf⟩ := k3
 show pl.fo.1.n = 32
 rw [hf]
 exact E.num
theorem bc_end (h : StIs w0 w s c xs tb ov ps uvs S) (E : BcE c { S with pool := { S.pool with wr := 0 } } V rs) (hw : S.pool.wr ≤ 11005) :
 Calls Tryz.prog 10 #[.pointer (some ⟨s, 0, none⟩)] w fun e w' => e = .returned (.tuple #[.int .i64 2, .int .i64 0]) ∧ Below w0.heap.size w0 w' := by
 have ht : S.R.tail ≤ 1610 := E.tail
 have hrm : S.R.room = 3658 - S.R.tail := by
  have h1 : S.R.start = 0 := E.start
  have h2 : S.R.n = 32 := E.num
  unfold Rg.room
  rw [h1, h2]
 have hnx : S.next = 2 := E.nx
 have hi := E.inv
 have hi : PInv c.n S.pool V := ⟨hi.dl, hi.v5, hi.un, hi.he, hi.inj, hi.out, hi.hand, hi.rl⟩
 have hfl : S.pool.fs.length = 8 := E.fl
 have hc : S.commits = 0 := E.com
 have hm : S.master = 1 := E.mst
 have hn : S.R.n = 32 := E.num
 refine (begin_ck h E.txs hi (by omega) (Nat.le_trans (dirtL_le S.pool.fs) (by omega)) rs E.held E.good (by omega) (by omega) (by omega) (by omega) (by omega) (by omega)).mono ?_
 rintro e w' ⟨rfl, ⟨S', h1⟩, hk⟩
 obtain ⟨_, _, _, _, h1⟩ := h1
 exact ⟨by rw [hnx]; rfl, h1.below⟩
end
end Go.Proofs.YteeembildppgmaaGreat
