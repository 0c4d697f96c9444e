/- A part of it: SBk SLines. -/
import Derived.Test.YteeembildppgmaaGreatM0
import Derived.Test.YteeembildppgmaaGreatM26
namespace Go.Proofs.YteeembildppgmaaGreat
open Go.RowKit
set_option linter.unusedVariables false
set_option linter.unusedSimpArgs false
section
variable {w0 w w' : World} {s : Nat} {c : Cf} {xs tb : List Nat} {ov : Value} {ps : List Nat} {uvs : List Value} {S : St} {V : Nat → List UInt8}
theorem resU_append (a b : List Up) : resU (a ++ b) = resU a + resU b := by simp [resU]
structure Bk (w0 w wk : World) (s : Nat) (c : Cf) (xs : List Nat) (S : St) (x id bg : Nat) (us0 : List Up) (VF : Nat → List UInt8) (HF : List UInt8) (LF W : Nat) (us : List Up) : Prop where
 is : ∃ (Sk : St) (la : Nat) (Vk : Nat → List UInt8) (tb : List Nat) (ov : Value) (ps : List Nat) (uvs : List Value) (uv : Value), StIs w0 wk s c xs tb ov ps uvs Sk ∧ Sk.txs = [⟨id, bg, la, us0 ++ us⟩] ∧ ps[0]? = some x ∧ uvs[0]? = some uv ∧ la ≤ 4398046511104 ∧ PInv c.n Sk.pool Vk ∧
  rbV us.reverse Sk.R.tail Vk = VF ∧ Sk.R.held ++ rbH us.reverse id Sk.R.tail la = HF ∧ rbL us.reverse Sk.R.tail la = LF ∧ Sk.pool.wr + 2 * us.length ≤ W ∧ Sk.pool.fs.length = S.pool.fs.length ∧ resU us ≤ Sk.R.room ∧
  (∃ f, Sk.R = { S.R with held := Sk.R.held, fin := f }) ∧ Sk = { S with pool := Sk.pool, txs := Sk.txs }
 ok : UpsOk c.n us
 kept : Kept xs w wk
 few : (us0 ++ us).length ≤ 1000000000
theorem Bk.step {wk : World} {x id bg LF W : Nat} {us0 : List Up} {VF : Nat → List UInt8} {HF : List UInt8} {us : List Up} {u : Up} (r : Bk w0 w wk s c xs S x id bg us0 VF HF LF W (us ++ [u])) (hW : W ≤ 1000000) (hid : id ≤ 1000000000000) :
 Calls Tryz.prog 39 #[.pointer (some ⟨s, 0, none⟩), .pointer (some ⟨x, 0, none⟩)] wk fun e w' => e = .returned (.int .i64 0) ∧ Bk w0 w w' s c xs S x id bg us0 VF HF LF W us := by
 obtain ⟨⟨Sk, la, Vk, tb, ov, ps, uvs, uv, h, htx, hx, hu, hla, hi, hV, hH, hL, hwr, hfs, hroom, hR, hS⟩, ok, kept, few⟩ := r
 have hT : Sk.txs[0]? = some ⟨id, bg, la, us0 ++ (us ++ [u])⟩ := by rw [htx]; rfl
 obtain ⟨o1, o2, o3, o4⟩ := ok u (by simp)
 have hlen : (us ++ [u]).length = us.length + 1 := by simp
 have hlen0 : (us0 ++ (us ++ [u])).length = (us0 ++ us).length + 1 := by simp; omega
 rw [hlen] at hwr
 rw [hlen0] at few
 have hsz : u.sz = 96 + u.after.length := rfl
 rw [resU_snoc] at hroom
 have etk : (us0 ++ (us ++ [u])).take (us0 ++ us).length = us0 ++ us := by rw [← List.append_assoc, List.take_left]
 refine (undoNewest_ok h hx hT hu (us0 ++ us).length u hlen0 (by show (us0 ++ (us ++ [u]))[(us0 ++ us).length]? = _; rw [← List.append_assoc]; simp) hi (by omega) o1 o2 o3 (by omega) hid hla o4 (by omega)).mono ?_
 rintro e w' ⟨rfl, pl, uvs', h', hi', hr', hw', hf', hk'⟩
 have hlu : uvs'[0]? = some (uvs'[0]?.getD default) := by
  have h1 := h'.ulen
  have h2 : uvs'.length = 1 := by rw [h1]; show (Sk.txs.set 0 _).length = 1; rw [List.length_set, htx]; rfl
  rw [List.getElem?_eq_getElem (by omega)]
  rfl
 obtain ⟨f, hf⟩ := hr'
 have hpr : pl.fo.1 = { Sk.R with held := Sk.R.held ++ ({ u.rc with txn := (id : Int), prev := (la : Int) } : Enc.Rc).enc, fin := f } := by rw [hf]
 have htl := h.tailLe
 have eR : (St.R { Sk with pool := pl, txs := Sk.txs.set 0 ⟨id, bg, Sk.R.tail + 1, (us0 ++ (us ++ [u])).take (us0 ++ us).length⟩ }) = pl.fo.1 := rfl
 have eT : pl.fo.1.tail = Sk.R.tail + u.sz := by
  rw [hpr]
  show Sk.R.start + (Sk.R.held ++ _).length = Sk.R.start + Sk.R.held.length + u.sz
  rw [List.length_append, len_up]
  omega
 have eM : pl.fo.1.room = Sk.R.room - u.sz := by
  rw [hpr]
  have := Rg.room_more Sk.R ({ u.rc with txn := (id : Int), prev := (la : Int) } : Enc.Rc).enc
  rw [len_up] at this
  exact this
 refine ⟨rfl, ⟨_, Sk.R.tail + 1, _, tb, ov, ps, uvs', _, h', by show Sk.txs.set 0 _ = _; rw [htx]; show [_] = [_]; rw [etk], hx, hlu, by omega, hi', ?_, ?_, ?_, by show pl.wr + _ ≤ W; omega, by show pl.fs.length = _; rw [hf', hfs], by rw [eR, eM]; omega, ?_, ?_⟩, fun v hv => ok v (by simp [hv]), kept.trans hk', by omega⟩
 · rw [← hV, eR, eT]
   simp only [List.reverse_append, List.reverse_cons, List.reverse_nil, List.nil_append, List.singleton_append]
   rfl
 · rw [← hH, eR, eT]
   simp only [List.reverse_append, List.reverse_cons, List.reverse_nil, List.nil_append, List.singleton_append]
   rw [hpr]
   show (Sk.R.held ++ _) ++ rbH us.reverse id _ (Sk.R.tail + 1) = Sk.R.held ++ (_ ++ rbH us.reverse id _ (Sk.R.tail + 1))
   rw [List.append_assoc]
 · rw [← hL, eR, eT]
   simp only [List.reverse_append, List.reverse_cons, List.reverse_nil, List.nil_append, List.singleton_append]
   rfl
 · obtain ⟨f0, hf0⟩ := hR
   refine ⟨f, ?_⟩
   rw [eR, hpr, hf0]
 · rw [hS]
theorem Bk.asks {wk : World} {x id bg LF W : Nat} {us0 : List Up} {VF : Nat → List UInt8} {HF : List UInt8} {us : List Up} (r : Bk w0 w wk s c xs S x id bg us0 VF HF LF W us) (m : Nat) (h0 : ∀ u ∈ us0, u.lsn ≤ m) (h1 : ∀ u ∈ us, m < u.lsn) :
 Calls Tryz.prog 38 #[.pointer (some ⟨x, 0, none⟩), .int .i64 (m : Int)] wk fun e w' => e = .returned (.bool (decide (us ≠ []))) ∧ w' = wk := by
 obtain ⟨⟨Sk, la, Vk, tb, ov, ps, uvs, uv, h, htx, hx, hu, hla, hi, hV, hH, hL, hwr, hfs, hroom, hR, hS⟩, ok, kept, few⟩ := r
 have hT : Sk.txs[0]? = some ⟨id, bg, la, us0 ++ us⟩ := by rw [htx]; rfl
 rcases List.eq_nil_or_concat us with rfl | ⟨vs, u, rfl⟩
 · rcases List.eq_nil_or_concat us0 with rfl | ⟨vs, u, rfl⟩
   · exact changed_none h hx hT hu rfl _
   · have hlen : ((vs.concat u) ++ ([] : List Up)).length = vs.length + 1 := by simp
     refine (changed_some h hx hT hu vs.length u hlen (by simp) (by rw [hlen] at few; omega) (m : Int)).mono ?_
     rintro e w' ⟨rfl, hw⟩
     have := h0 u (by simp)
     refine ⟨?_, hw⟩
     simp
     omega
 · have hlen : (us0 ++ (vs.concat u)).length = (us0 ++ vs).length + 1 := by simp; omega
   refine (changed_some h hx hT hu (us0 ++ vs).length u hlen (by show (us0 ++ vs.concat u)[(us0 ++ vs).length]? = _; rw [List.concat_eq_append, ← List.append_assoc]; simp) (by rw [hlen] at few; omega) (m : Int)).mono ?_
   rintro e w' ⟨rfl, hw⟩
   have := h1 u (by simp)
   refine ⟨?_, hw⟩
   simp
   omega
theorem Bk.upsIn {wk : World} {x id bg LF W : Nat} {us0 : List Up} {VF : Nat → List UInt8} {HF : List UInt8} {us : List Up} (r : Bk w0 w wk s c xs S x id bg us0 VF HF LF W us) : YteeembildppgmaaGreat.upsIn x wk = (us0 ++ us).length := by
 obtain ⟨⟨Sk, la, Vk, tb, ov, ps, uvs, uv, h, htx, hx, hu, hla, hi, hV, hH, hL, hwr, hfs, hroom, hR, hS⟩, ok, kept, few⟩ := r
 obtain ⟨vs, t⟩ := h.tx 0 x ⟨id, bg, la, us0 ++ us⟩ uv hx (by rw [htx]; rfl) hu
 obtain ⟨ao, cc, e⟩ := t.uvlen
 unfold YteeembildppgmaaGreat.upsIn
 rw [t.c3, e]
theorem Bk.fin {wk : World} {x id bg LF W : Nat} {us0 : List Up} {VF : Nat → List UInt8} {HF : List UInt8} (r : Bk w0 w wk s c xs S x id bg us0 VF HF LF W []) :
 ∃ pl, StAt w0 wk s c xs { S with pool := pl, txs := [⟨id, bg, LF, us0⟩] } ∧ PInv c.n pl VF ∧ pl.wr ≤ W ∧ pl.fs.length = S.pool.fs.length ∧ RS { S.R with held := HF } pl.fo.1 ∧ Kept xs w wk := by
 obtain ⟨⟨Sk, la, Vk, tb, ov, ps, uvs, uv, h, htx, hx, hu, hla, hi, hV, hH, hL, hwr, hfs, hroom, ⟨f, hf⟩, hS⟩, ok, kept, few⟩ := r
 have e1 : Vk = VF := hV
 have e2 : la = LF := hL
 have e3 : Sk.R.held = HF := by rw [← hH]; simp [rbH]
 subst e1 e2
 refine ⟨Sk.pool, ?_, hi, by omega, hfs, ⟨f, ?_⟩, kept⟩
 · have : ({ S with pool := Sk.pool, txs := [⟨id, bg, la, us0⟩] } : St) = Sk := by
    rw [hS, htx, List.append_nil]
   rw [this]
   exact h.at
 · show Sk.R = _
   rw [hf, e3]
end
end Go.Proofs.YteeembildppgmaaGreat
namespace Go.Proofs.YteeembildppgmaaGreat
open Go.RowKit
set_option linter.unusedVariables false
set_option linter.unusedSimpArgs false
def encs (l : List Enc.Rc) : List UInt8 := l.flatMap Enc.Rc.enc
theorem encs_append (a b : List Enc.Rc) : encs (a ++ b) = encs a ++ encs b := by simp [encs]
theorem encs_cons (R : Enc.Rc) (b : List Enc.Rc) : encs (R :: b) = R.enc ++ encs b := by simp [encs]
abbrev Quad := Value × Value × Value × Value
def lineCells (lsn : Nat) (R : Enc.Rc) (q : Quad) : List Value := .int .i64 (lsn : Int) :: (Enc.recCells R q.1 q.2.1 q.2.2.1 q.2.2.2).toList
def linesRow : Nat → List Enc.Rc → List Quad → List Value
 | st, R :: r, q :: t => lineCells (st + 1) R q ++ linesRow (st + R.size) r t
 | _, _, _ => []
theorem linesRow_snoc (R : Enc.Rc) (q : Quad) : ∀ (rs : List Enc.Rc) (qs : List Quad) (st : Nat), qs.length = rs.length → linesRow st (rs ++ [R]) (qs ++ [q]) = linesRow st rs qs ++ lineCells (st + (encs rs).length + 1) R q
 | [], [], st, _ => by simp [linesRow, encs]
 | [], _ :: _, st, h => by simp at h
 | _ :: _, [], st, h => by simp at h
 | R' :: r, q' :: t, st, h => by
   have := linesRow_snoc R q r t (st + R'.size) (by simpa using h)
   simp only [List.cons_append, linesRow]
   rw [this, encs_cons, List.length_append, Enc.length_enc, List.append_assoc]
   congr 3
   omega
structure LinesAt (w : World) (base : Nat) (l : Value) (st : Nat) (rs : List Enc.Rc) : Prop where
 new : ∀ k, l.ownBlock = some k → base ≤ k
 is : ∃ qs : List Quad, qs.length = rs.length ∧ w.ownsRow 0 88 12 l rs.length (linesRow st rs qs) ∧ ∀ (i : Nat) (R : Enc.Rc) (q : Quad), rs[i]? = some R → qs[i]? = some q → Enc.RecOwn 0 w (.agg (Enc.recCells R q.1 q.2.1 q.2.2.1 q.2.2.2)) R
def slLen : Value → Nat
 | .slice _ n _ => n
 | _ => 0
theorem RecOwn_of_block {w w' : World} {V : Value} {R : Enc.Rc} {g : Option Nat} (h : Enc.RecOwn 0 w V R) (hg : ∀ k, g = some k → ∃ C, w.heap[k]? = some (.cells C 88 (0, 0))) (hb : ∀ k, k < w.heap.size → some k ≠ g → w'.heap[k]? = w.heap[k]?) : Enc.RecOwn 0 w' V R := by
 have key : ∀ {e size : Nat} {v : Value} {n : Nat} {xs : List Value}, e ≠ 88 → w.ownsRow 0 e size v n xs → w'.ownsRow 0 e size v n xs := fun {e size v n xs} he ho => owns_of_block ho (fun k hk => hb k ((World.ownsRow.lt ho k hk).2) (fun eg => by
  obtain ⟨C, hC⟩ := hg k eg.symm
  rcases ho.2 with ⟨h1, _⟩ | ⟨g', cap, cur, h1, _, h3, _⟩
  · rw [h1] at hk; simp [Value.ownBlock] at hk
  · rw [h1] at hk
    injection hk with hk
    rw [← hk, h3] at hC
    injection hC with hC
    injection hC with _ hC
    exact he hC))
 obtain ⟨vb, va, vt, vd, e, h1, h2, h3, h4⟩ := h
 exact ⟨vb, va, vt, vd, e, key (by decide) h1, key (by decide) h2, key (by decide) h3, key (by decide) h4⟩
theorem len_encs : ∀ rs : List Enc.Rc, rs.length ≤ (encs rs).length
 | [] => Nat.zero_le _
 | R :: r => by
   have := len_encs r
   have h : R.size = 96 + R.before.length + R.after.length + 24 * R.txns.length + 16 * R.dirty.length := rfl
   rw [encs_cons, List.length_append, Enc.length_enc, List.length_cons]
   omega
theorem one_line (n : Nat) (R : Enc.Rc) (q : Quad) (h1 : q.1.oneCell' = true) (h2 : q.2.1.oneCell' = true) (h3 : q.2.2.1.oneCell' = true) (h4 : q.2.2.2.oneCell' = true) : ∀ u ∈ lineCells n R q, u.oneCell' = true := by
 intro u hu
 simp only [lineCells, Enc.recCells, List.mem_cons, List.not_mem_nil, or_false] at hu
 rcases hu with rfl | rfl | rfl | rfl | rfl | rfl | rfl | rfl | rfl | rfl | rfl | rfl
 all_goals first | rfl | assumption
theorem op_sub3 (ρ : Operand → Value) (o : Oper) (x y : Operand) (tt : TypeId) (ho : o.op = .binOp .sub 3 x y tt) (n m : Int) (hx : ρ x = .int .i64 n) (hy : ρ y = .int .i64 m) (k : Int) (hk : IntKind.i64.wrap (n - m) = k) {w : World} : (execOp ρ o).run Tryz.prog w = .ok (.value (.int .i64 k)) w := by
 have hu := Tryz.underlying3
 unfold execOp
 simp only [ho, hx, hy]
 simp [go_sem, hu, hk]
theorem src_line {w : World} {g A0 : Nat} {R : Enc.Rc} {vb va vt vd : Value} (h : w.heap[g]? = some (.cells #[.int .i64 ((A0 : Int) + 1), .int .i64 R.kind, .int .i64 R.txn, .int .i64 R.prev, .int .i64 R.next, .int .i64 R.page, .int .i64 R.off, vb, va, vt, vd, .int .i64 R.count] 88 (0, 0))) :
 ∀ j u, (lineCells (A0 + 1) R (vb, va, vt, vd))[j]? = some u → w.cell? ((⟨g, 0, none⟩ : Addr).add j) = some u := by
 refine src_of_block (X := lineCells (A0 + 1) R (vb, va, vt, vd)) (t := 88) (fr := (0, 0)) ?_
 rw [h]
 simp [lineCells, Enc.recCells]
theorem cut_blk {ao : Option Addr} {c l b : Nat} (h : (Enc.cutAt ao c l).map (·.block) = some b) : ao.map (·.block) = some b := by
 unfold Enc.cutAt at h
 split at h
 · exact h
 · cases ao with
   | none => simp at h
   | some a =>
     simp [Addr.add] at h ⊢
     split at h <;> exact h
theorem own_map {ao : Option Addr} {n c b : Nat} (h : (Value.slice ao n c).ownBlock = some b) : ao.map (·.block) = some b := by
 cases ao with
 | none => simp [Value.ownBlock] at h
 | some a => exact h
theorem Tryz.info88 : (Tryz.prog.info? 88).map (fun i => (i.zero, i.size, i.bytes)) = some (some (.agg #[.int .i64 0, .int .i64 0, .int .i64 0, .int .i64 0, .int .i64 0, .int .i64 0, .int .i64 0, .slice none 0 0, .slice none 0 0, .slice none 0 0, .slice none 0 0, .int .i64 0]), 12, 160) := by kernel_rfl
theorem Tryz.enters56 (args : Array Value) (w : World) : (callFunc 56 args).run Tryz.prog w = .ok (.enter 56 args) w := by kernel_rfl
theorem Tryz.enters99 (args : Array Value) (w : World) : (callFunc 99 args).run Tryz.prog w = .ok (.enter 99 args) w := by kernel_rfl
section
variable {w0 w w' : World} {s : Nat} {c : Cf} {xs tb : List Nat} {ov : Value} {ps : List Nat} {uvs : List Value} {S : St} {V : Nat → List UInt8}
set_option maxHeartbeats 1000000 in
set_option maxRecDepth 100000 in
theorem lines_ok (h : StIs w0 w s c xs tb ov ps uvs S) (rs : List Enc.Rc) (hrs : S.R.held = encs rs) (hgd : ∀ R ∈ rs, R.good) :
 Calls Tryz.prog 65 #[.pointer (some ⟨s, 0, none⟩)] w fun e w' => ∃ l, e = .returned l ∧ LinesAt w' w.heap.size l S.R.start rs ∧ Below w.heap.size w w' := by
 have c1 := h.c1
 have hsl : s < w.heap.size := h.lts (by simp)
 obtain ⟨bl, vs, gp, D, hpx, hy⟩ := h.asRing
 have hwf1 := hy.rg.wf.start
 have hwf2 := hy.rg.wf.held
 have HSTART := hide (start_any hy.rg)
 have HTAIL0 := hide (tail_any (hy.rg.drewN 1))
 have HREAD0 : Hid (∀ W2 m2, W2 = (w.drewN 1).drewN m2 → Calls Tryz.prog 99 #[.pointer (some ⟨c.r, 0, none⟩), .int .i64 (S.R.start : Int), .int .i64 (S.R.held.length : Int)] W2 fun e w' => ∃ g, e = .returned (.tuple #[.slice (some ⟨g, 0, none⟩) S.R.held.length S.R.held.length, .int .i64 0]) ∧ W2.heap.size ≤ g ∧
  w'.heap[g]? = some (.cells (secCells ((S.R.held.drop (S.R.start - S.R.start)).take S.R.held.length)).toArray 5 (0, 0)) ∧ Below W2.heap.size W2 w') := fun W2 m2 e => by
  rw [e]
  exact rread_ok S.R.start S.R.held.length ((hy.rg.drewN 1).drewN m2) (Nat.le_refl _) (Nat.le_refl _)
 obtain ⟨st, hst⟩ : ∃ st, S.R.start = st := ⟨_, rfl⟩
 obtain ⟨hl, hhl⟩ : ∃ hl, S.R.held.length = hl := ⟨_, rfl⟩
 have htl : S.R.tail = st + hl := by rw [← hst, ← hhl]; rfl
 have hhd : (S.R.held.drop (st - st)).take hl = encs rs := by rw [Nat.sub_self, List.drop_zero, ← hhl, List.take_length, hrs]
 have hel : (encs rs).length = hl := by rw [← hrs, hhl]
 rw [hst] at HSTART hwf1
 rw [hst, hhl] at HREAD0
 rw [hhl] at hwf2
 rw [htl] at HTAIL0
 rw [hhd] at HREAD0
 rw [hst]
 have HTAIL := HTAIL0
 have HREAD := HREAD0
 have hsub : IntKind.i64.wrap (((st + hl : Nat) : Int) - (st : Int)) = (hl : Int) := by rw [IntKind.wrap_i64]; omega
 have HGD := hide hgd
 have HEL := hide hel
 clear h hpx hy hgd hst hhl htl hhd hrs HTAIL0 HREAD0 hel
 go_enter Tryz.func65, Tryz.ntmps65
 go_wp2_with (first | (go_at_call 87; refine HSTART.out.mono ?_; rintro e w' ⟨rfl, hw⟩; have hw := hw.symm; subst hw) | fail)
 refine wp_region_held_drew (S := fun w' => w'.cell? ⟨s, 1, none⟩ = some (.pointer (some ⟨c.r, 0, none⟩))) (by kernel_rfl) c1 (fun hH => ?_)
 refine take_to 0 16 (.pointer (some ⟨s, 0, none⟩)) rfl (by kernel_rfl) (by kernel_rfl) (by kernel_rfl) (fun _ _ _ h => h) rfl (by rfl) (fun w hw => by rfl) hH ?_
 simp only [Act.put, zA, zB, zC]
 refine take_to 1 17 (.pointer (some ⟨s, 0, none⟩)) rfl (by kernel_rfl) (by kernel_rfl) (by kernel_rfl) (fun _ _ _ h => h) rfl (by rfl) (fun w hw => by rfl) hH ?_
 simp only [Act.put, zA, zB, zC]
 refine take_to 2 18 (.pointer (some ⟨s, 1, none⟩)) rfl (by kernel_rfl) (by kernel_rfl) (by kernel_rfl) (fun _ _ _ h => h) rfl (by rfl) (fun w hw => by rfl) hH ?_
 simp only [Act.put, zA, zB, zC]
 refine take_to 3 19 (.pointer (some ⟨c.r, 0, none⟩)) rfl (by kernel_rfl) (by kernel_rfl) (by kernel_rfl) (fun _ _ _ h => h) rfl (by rfl) (fun w hw => op_load _ _ 61 (.tmp 18) rfl (.pointer (some ⟨s, 1, none⟩)) _ rfl (run_loadAny w s 1 61 _ Tryz.isAgg61 hw)) hH ?_
 simp only [Act.put, zA, zB, zC]
 refine take_to 4 20 (.int .i64 (st : Int)) rfl (by kernel_rfl) (by kernel_rfl) (by kernel_rfl) (fun _ _ _ h => h) rfl (by rfl) (fun w hw => by rfl) hH ?_
 simp only [Act.put, zA, zB, zC]
 refine take_to 5 21 (.pointer (some ⟨s, 0, none⟩)) rfl (by kernel_rfl) (by kernel_rfl) (by kernel_rfl) (fun _ _ _ h => h) rfl (by rfl) (fun w hw => by rfl) hH ?_
 simp only [Act.put, zA, zB, zC]
 refine take_to 6 22 (.pointer (some ⟨s, 0, none⟩)) rfl (by kernel_rfl) (by kernel_rfl) (by kernel_rfl) (fun _ _ _ h => h) rfl (by rfl) (fun w hw => by rfl) hH ?_
 simp only [Act.put, zA, zB, zC]
 refine take_to 7 23 (.pointer (some ⟨s, 1, none⟩)) rfl (by kernel_rfl) (by kernel_rfl) (by kernel_rfl) (fun _ _ _ h => h) rfl (by rfl) (fun w hw => by rfl) hH ?_
 simp only [Act.put, zA, zB, zC]
 refine take_to 8 24 (.pointer (some ⟨c.r, 0, none⟩)) rfl (by kernel_rfl) (by kernel_rfl) (by kernel_rfl) (fun _ _ _ h => h) rfl (by rfl) (fun w hw => op_load _ _ 61 (.tmp 23) rfl (.pointer (some ⟨s, 1, none⟩)) _ rfl (run_loadAny w s 1 61 _ Tryz.isAgg61 hw)) hH ?_
 simp only [Act.put, zA, zB, zC]
 refine take_to 10 26 (.int .i64 (st : Int)) rfl (by kernel_rfl) (by kernel_rfl) (by kernel_rfl) (fun _ _ _ h => h) rfl (by rfl) (fun w hw => by rfl) hH ?_
 simp only [Act.put, zA, zB, zC]
 refine step_call1_to 9 25 56 rfl (by kernel_rfl) rfl (by rfl) (.tmp 24) _ rfl _ rfl Tryz.enters56 (HTAIL.out) ?_
 rintro e W2 ⟨rfl, m2, hw2⟩
 have hS2 : W2.cell? ⟨s, 1, none⟩ = some (.pointer (some ⟨c.r, 0, none⟩)) := by rw [hw2]; exact c1
 refine ⟨_, rfl, hS2, ?_⟩
 simp only [Act.put, zA, zB, zC]
 refine step_to 11 27 (.int .i64 (hl : Int)) W2 rfl (by kernel_rfl) rfl (by rfl) (op_sub3 _ _ _ _ _ rfl ((st + hl : Nat) : Int) (st : Int) rfl rfl _ hsub) hS2 ?_
 simp only [Act.put, zA, zB, zC]
 refine step_call3_to 12 28 99 rfl (by kernel_rfl) rfl (by rfl) (.tmp 19) (.tmp 20) (.tmp 27) _ rfl _ _ _ rfl rfl rfl Tryz.enters99 (HREAD.out W2 m2 hw2) ?_
 rintro e W3 ⟨g, rfl, hg3, hb3, hB3⟩
 have hS3 : W3.cell? ⟨s, 1, none⟩ = some (.pointer (some ⟨c.r, 0, none⟩)) := (hB3.cell (p := ⟨s, 1, none⟩) (by rw [hw2]; exact hsl)).trans hS2
 refine ⟨_, rfl, hS3, ?_⟩
 simp only [Act.put, zA, zB, zC]
 refine step_to 13 15 (.tuple #[.slice (some ⟨g, 0, none⟩) hl hl, .int .i64 0]) W3 rfl (by kernel_rfl) rfl (by rfl) (rfl) hS3 ?_
 simp only [Act.put, zA, zB, zC]
 refine take_to 14 29 (.slice (some ⟨g, 0, none⟩) hl hl) rfl (by kernel_rfl) (by kernel_rfl) (by kernel_rfl) (fun _ _ _ h => h) rfl (by rfl) (fun w hw => by rfl) hS3 ?_
 simp only [Act.put, zA, zB, zC]
 refine take_to 15 30 (.int .i64 0) rfl (by kernel_rfl) (by kernel_rfl) (by kernel_rfl) (fun _ _ _ h => h) rfl (by rfl) (fun w hw => by rfl) hS3 ?_
 simp only [Act.put, zA, zB, zC]
 refine take_to 16 5 (.slice (some ⟨g, 0, none⟩) hl hl) rfl (by kernel_rfl) (by kernel_rfl) (by kernel_rfl) (fun _ _ _ h => h) rfl (by rfl) (fun w hw => by rfl) hS3 ?_
 simp only [Act.put, zA, zB, zC]
 refine take_to 17 6 (.int .i64 0) rfl (by kernel_rfl) (by kernel_rfl) (by kernel_rfl) (fun _ _ _ h => h) rfl (by rfl) (fun w hw => by rfl) hS3 ?_
 simp only [Act.put, zA, zB, zC]
 refine wpAnyH_done (by kernel_rfl) ?_ _
 have B3 : Below w.heap.size w W3 := by
  rw [hw2] at hB3
  exact ((below_drewN w.heap.size w 1).trans (below_drewN w.heap.size (w.drewN 1) m2)).trans hB3
 have hg3' : w.heap.size ≤ g := by rw [hw2] at hg3; exact hg3
 have SL3 : Enc.Sl W3 (.slice (some ⟨g, 0, none⟩) hl hl) (encs rs) := by
  rw [← HEL.out]
  refine ⟨_, _, rfl, Nat.le_refl _, by rw [HEL.out]; simp only [maxLen]; omega, fun _ => ⟨g, 0, rfl, rng_block hb3⟩⟩
 have HB3 := hide B3
 have HSL3 := hide SL3
 have HG3 := hide hb3
 clear hS2 hS3 hH hB3 hb3 hg3 B3 SL3 HTAIL HREAD c1 hsl hsub hw2 hg3'
 go_wp2
 go_loopw [3, 4, 5] (fun l at' rest wr => ∃ k : Nat, k ≤ rs.length ∧ at' = .int .i64 ((st + (encs (rs.take k)).length : Nat) : Int) ∧ Enc.Sl wr rest (encs (rs.drop k)) ∧ LinesAt wr w.heap.size l st (rs.take k) ∧ Below w.heap.size w wr ∧ wr.heap[g]? = some (.cells (secCells (encs rs)).toArray 5 (0, 0)) ∧ ∀ b, rest.ownBlock = some b → b = g) (fun _ _ rest _ => slLen rest)
 case atStart => exact ⟨0, by omega, by simp [encs], by simpa using HSL3.out, ⟨fun k hk => by simp [Value.ownBlock] at hk, [], rfl, ⟨rfl, .inl ⟨rfl, rfl⟩⟩, fun i R q h1 => by simp at h1⟩, HB3.out, HG3.out, fun b hb => by injection hb with hb; exact hb.symm⟩
 case round =>
  obtain ⟨k, hk, rfl, hsl, hln, hB, hG5, hbg⟩ := hrel
  have HG5 := hide hG5
  have HB := hide hB
  have HLN := hide hln
  obtain ⟨ao, cc, rfl, hc1, hc2⟩ := hsl.len
  have HSL := hide hsl
  have HBG : Hid (∀ b, ao.map (·.block) = some b → b = g) := fun b hb => hbg b (by cases ao with | none => simp at hb | some a => exact hb)
  clear hB hln hsl hG5 hbg
  have hsum : (encs (rs.take k)).length + (encs (rs.drop k)).length = hl := by rw [← List.length_append, ← encs_append, List.take_append_drop, HEL.out]
  by_cases hlt : k < rs.length
  · obtain ⟨R, hR⟩ : ∃ R, rs[k]? = some R := ⟨_, List.getElem?_eq_getElem hlt⟩
    obtain ⟨_, hRe⟩ := List.getElem?_eq_some_iff.1 hR
    have hdr : rs.drop k = R :: rs.drop (k + 1) := by rw [List.drop_eq_getElem_cons hlt, hRe]
    have htk : rs.take (k + 1) = rs.take k ++ [R] := by rw [List.take_succ_eq_append_getElem hlt, hRe]
    have hbs : encs (rs.drop k) = R.enc ++ encs (rs.drop (k + 1)) := by rw [hdr, encs_cons]
    have hln2 : (encs (rs.drop k)).length = R.size + (encs (rs.drop (k + 1))).length := by rw [hbs, List.length_append, Enc.length_enc]
    have hsz : R.size = 96 + R.before.length + R.after.length + 24 * R.txns.length + 16 * R.dirty.length := rfl
    have hdec : Enc.dec (encs (rs.drop k)) = some R := by rw [hbs]; exact Enc.dec_enc R (HGD.out R (by rw [← hRe]; exact List.getElem_mem _)) (by omega) _
    have HDE := hide (Enc.decode_any HSL.out (by omega))
    have HFR := hide (HSL.out.from R.size (by omega))
    have HTK := hide htk
    have HLN2 := hide hln2
    have HDR : Hid ((encs (rs.drop k)).drop R.size = encs (rs.drop (k + 1))) := by show _ = _; rw [hbs, ← Enc.length_enc, List.drop_left]
    have HRK := hide hR
    obtain ⟨M, hM⟩ : ∃ M, (encs (rs.drop k)).length = M := ⟨_, rfl⟩
    obtain ⟨P0, hP0⟩ : ∃ P0, (encs (rs.take k)).length = P0 := ⟨_, rfl⟩
    obtain ⟨Z, hZ⟩ : ∃ Z, R.size = Z := ⟨_, rfl⟩
    obtain ⟨A0, hA0⟩ : ∃ A0, st + P0 = A0 := ⟨_, rfl⟩
    rw [hP0] at hsum ⊢
    rw [hA0]
    rw [hM] at HSL HDE hsum hln2 hc1 HFR ⊢
    rw [hZ] at hln2 HFR
    have HHM := hide hM
    have HHP := hide hP0
    have HHZ := hide hZ
    have HHA := hide hA0
    have hZ96 : 96 ≤ Z := by omega
    have hcut : ∀ u, (Instr.sliceAt 36 (.slice ao M cc) (some (.int .i64 (Z : Int))) none none).run Tryz.prog u = .ok (.slice (Enc.cutAt ao cc Z) (M - Z) (cc - Z)) u := fun u => Enc.run_cut_from u ao M cc Z (by omega)
    obtain ⟨hnew, qs, hq, ho, hrec⟩ := HLN.out
    obtain ⟨la, lc, rfl⟩ := Enc.owns_len ho
    have HNEW := hide hnew
    have HQL := hide hq
    have HOW := hide ho
    have HREC := hide hrec
    have hkl : (rs.take k).length = k := by rw [List.length_take]; omega
    have hrl : rs.length ≤ hl := by rw [← HEL.out]; exact len_encs rs
    rw [hkl] at HOW HNEW ⊢
    have hMp : ((M : Int) > 0) := by omega
    have hbz : IntKind.i64.wrap ((A0 : Int) + 1) = (A0 : Int) + 1 := by rw [IntKind.wrap_i64]; omega
    have hbz2 : IntKind.i64.wrap ((A0 : Int) + (Z : Int)) = (A0 : Int) + (Z : Int) := by rw [IntKind.wrap_i64]; omega
    have b1 : Z ≤ M := by omega
    have b2 : A0 ≤ 4398046511104 := by omega
    have b3 : M ≤ 2000000 := by omega
    have HSUM := hide hsum
    clear hR hRe hdr htk hbs hsz hnew hq ho hrec hM hP0 hA0 hZ hln2 hsum hkl
    go_wp2_with (first
     | (go_at_call 100; refine HDE.out.mono ?_; intro e w2 hde
        obtain ⟨hB2, hmt⟩ := hde
        rw [hdec] at hmt
        obtain ⟨VV, rfl, vb, va, vt, vd, rfl, o1, o2, o3, o4⟩ := hmt
        obtain ⟨ab, cb, rfl⟩ := Enc.owns_len o1
        obtain ⟨aa, ca, rfl⟩ := Enc.owns_len o2
        obtain ⟨aT, ct, rfl⟩ := Enc.owns_len o3
        obtain ⟨ad, cd, rfl⟩ := Enc.owns_len o4
        have HO2 : Hid (Off [] w2 ((w2.alloc (.cells #[.int .i64 R.kind, .int .i64 R.txn, .int .i64 R.prev, .int .i64 R.next, .int .i64 R.page, .int .i64 R.off, .slice ab R.before.length cb, .slice aa R.after.length ca, .slice aT R.txns.length ct, .slice ad R.dirty.length cd, .int .i64 R.count] 69)).alloc (.cells #[.int .i64 ((A0 : Int) + 1), .int .i64 R.kind, .int .i64 R.txn, .int .i64 R.prev, .int .i64 R.next, .int .i64 R.page, .int .i64 R.off, .slice ab R.before.length cb, .slice aa R.after.length ca, .slice aT R.txns.length ct, .slice ad R.dirty.length cd, .int .i64 R.count] 88))) := ((Off.refl _ _).alloc _).alloc _
        have HNW : Hid (((w2.alloc (.cells #[.int .i64 R.kind, .int .i64 R.txn, .int .i64 R.prev, .int .i64 R.next, .int .i64 R.page, .int .i64 R.off, .slice ab R.before.length cb, .slice aa R.after.length ca, .slice aT R.txns.length ct, .slice ad R.dirty.length cd, .int .i64 R.count] 69)).alloc (.cells #[.int .i64 ((A0 : Int) + 1), .int .i64 R.kind, .int .i64 R.txn, .int .i64 R.prev, .int .i64 R.next, .int .i64 R.page, .int .i64 R.off, .slice ab R.before.length cb, .slice aa R.after.length ca, .slice aT R.txns.length ct, .slice ad R.dirty.length cd, .int .i64 R.count] 88)).heap[w2.heap.size + 1]? = some (.cells #[.int .i64 ((A0 : Int) + 1), .int .i64 R.kind, .int .i64 R.txn, .int .i64 R.prev, .int .i64 R.next, .int .i64 R.page, .int .i64 R.off, .slice ab R.before.length cb, .slice aa R.after.length ca, .slice aT R.txns.length ct, .slice ad R.dirty.length cd, .int .i64 R.count] 88 (0, 0))) := by
         show _ = _
         have := heap_alloc_new (w2.alloc (.cells #[.int .i64 R.kind, .int .i64 R.txn, .int .i64 R.prev, .int .i64 R.next, .int .i64 R.page, .int .i64 R.off, .slice ab R.before.length cb, .slice aa R.after.length ca, .slice aT R.txns.length ct, .slice ad R.dirty.length cd, .int .i64 R.count] 69)) (.cells #[.int .i64 ((A0 : Int) + 1), .int .i64 R.kind, .int .i64 R.txn, .int .i64 R.prev, .int .i64 R.next, .int .i64 R.page, .int .i64 R.off, .slice ab R.before.length cb, .slice aa R.after.length ca, .slice aT R.txns.length ct, .slice ad R.dirty.length cd, .int .i64 R.count] 88)
         rw [show (w2.alloc (.cells #[.int .i64 R.kind, .int .i64 R.txn, .int .i64 R.prev, .int .i64 R.next, .int .i64 R.page, .int .i64 R.off, .slice ab R.before.length cb, .slice aa R.after.length ca, .slice aT R.txns.length ct, .slice ad R.dirty.length cd, .int .i64 R.count] 69)).heap.size = w2.heap.size + 1 by simp] at this
         exact this
        have HOWN2 := hide (owns_of_block (owns_of_block HOW.out (fun b hb => hB2.block b ((HOW.out.lt b hb).2))) (fun b hb => HO2.out.block b (Nat.lt_of_lt_of_le ((HOW.out.lt b hb).2) hB2.size) (by simp)))
        have HSRC := hide (src_line HNW.out)
        have HROW : Hid (Enc.RecOwn 0 w2 (.agg (Enc.recCells R (.slice ab R.before.length cb) (.slice aa R.after.length ca) (.slice aT R.txns.length ct) (.slice ad R.dirty.length cd))) R) := ⟨_, _, _, _, rfl, Enc.owns_mono o1 (Nat.zero_le _), Enc.owns_mono o2 (Nat.zero_le _), Enc.owns_mono o3 (Nat.zero_le _), Enc.owns_mono o4 (Nat.zero_le _)⟩
        have HB2 := hide hB2
        unfold Enc.recCells
        rw [HHZ.out]
        clear o1 o2 o3 o4 hB2 HDE)
     | (refine wpList_append_owned rfl _ _ 85 rfl 88 (.agg #[.int .i64 0, .int .i64 0, .int .i64 0, .int .i64 0, .int .i64 0, .int .i64 0, .int .i64 0, .slice none 0 0, .slice none 0 0, .slice none 0 0, .slice none 0 0, .int .i64 0]) 12 160 Tryz.underlying85 Tryz.info88 rfl (by omega) _ _ _ rfl HOWN2.out ⟨w2.heap.size + 1, 0, none⟩ 1 1 (lineCells (A0 + 1) R (.slice ab R.before.length cb, .slice aa R.after.length ca, .slice aT R.txns.length ct, .slice ad R.dirty.length cd)) rfl rfl HSRC.out (one_line _ _ _ rfl rfl rfl rfl) (by simp only [maxLen]; omega) (by omega) ?_; intro v4 w4 r1 r2 r3; have H4 := hide (And.intro r1 (And.intro r2 r3)); clear r1 r2 r3))
    go_roundw
    case rel =>
     refine ⟨_, _, _, _, _, _, _, _, _, _, _, _, _, _, _, _, _, _, _, _, _, _, _, _, _, _, _, _, _, _, ?_, rfl⟩
     obtain ⟨r1, r2, r3⟩ : w4.ownsRow 0 88 12 v4 (k + 1) (linesRow st (rs.take k) qs ++ lineCells (A0 + 1) R (.slice ab R.before.length cb, .slice aa R.after.length ca, .slice aT R.txns.length ct, .slice ad R.dirty.length cd)) ∧ ((w2.alloc (.cells #[.int .i64 R.kind, .int .i64 R.txn, .int .i64 R.prev, .int .i64 R.next, .int .i64 R.page, .int .i64 R.off, .slice ab R.before.length cb, .slice aa R.after.length ca, .slice aT R.txns.length ct, .slice ad R.dirty.length cd, .int .i64 R.count] 69)).alloc (.cells #[.int .i64 ((A0 : Int) + 1), .int .i64 R.kind, .int .i64 R.txn, .int .i64 R.prev, .int .i64 R.next, .int .i64 R.page, .int .i64 R.off, .slice ab R.before.length cb, .slice aa R.after.length ca, .slice aT R.txns.length ct, .slice ad R.dirty.length cd, .int .i64 R.count] 88)).grownBy w4 (Value.slice la k lc).ownBlock ∧ (∀ k', v4.ownBlock = some k' → (Value.slice la k lc).ownBlock = some k' ∨ ((w2.alloc (.cells #[.int .i64 R.kind, .int .i64 R.txn, .int .i64 R.prev, .int .i64 R.next, .int .i64 R.page, .int .i64 R.off, .slice ab R.before.length cb, .slice aa R.after.length ca, .slice aT R.txns.length ct, .slice ad R.dirty.length cd, .int .i64 R.count] 69)).alloc (.cells #[.int .i64 ((A0 : Int) + 1), .int .i64 R.kind, .int .i64 R.txn, .int .i64 R.prev, .int .i64 R.next, .int .i64 R.page, .int .i64 R.off, .slice ab R.before.length cb, .slice aa R.after.length ca, .slice aT R.txns.length ct, .slice ad R.dirty.length cd, .int .i64 R.count] 88)).heap.size ≤ k') := H4.out
     have hB5 : Below w.heap.size w ((w2.alloc (.cells #[.int .i64 R.kind, .int .i64 R.txn, .int .i64 R.prev, .int .i64 R.next, .int .i64 R.page, .int .i64 R.off, .slice ab R.before.length cb, .slice aa R.after.length ca, .slice aT R.txns.length ct, .slice ad R.dirty.length cd, .int .i64 R.count] 69)).alloc (.cells #[.int .i64 ((A0 : Int) + 1), .int .i64 R.kind, .int .i64 R.txn, .int .i64 R.prev, .int .i64 R.next, .int .i64 R.page, .int .i64 R.off, .slice ab R.before.length cb, .slice aa R.after.length ca, .slice aT R.txns.length ct, .slice ad R.dirty.length cd, .int .i64 R.count] 88)) := (HB.out.trans (HB2.out.mono HB.out.size)).trans (HO2.out.below (Nat.le_trans HB.out.size HB2.out.size) (fun k hk => by simp at hk))
     have hB6 : Below w.heap.size w w4 := hB5.trans ⟨r2.os, r2.tape, r2.output, r2.size, fun q hq => r2.block q (Nat.lt_of_lt_of_le hq hB5.size) (fun e => by have := HNEW.out q e.symm; omega)⟩
     have hlk : ∀ q, q < wr.heap.size → some q ≠ (Value.slice la k lc).ownBlock → w4.heap[q]? = wr.heap[q]? := fun q hq hne => (r2.block q (Nat.lt_of_lt_of_le hq (Nat.le_trans HB2.out.size HO2.out.size)) hne).trans ((HO2.out.block q (Nat.lt_of_lt_of_le hq HB2.out.size) (by simp)).trans (HB2.out.block q hq))
     have hl88 : ∀ q, (Value.slice la k lc).ownBlock = some q → ∃ C, wr.heap[q]? = some (.cells C 88 (0, 0)) := fun q hq => by
      rcases HOW.out.2 with ⟨h1, _⟩ | ⟨g', cap, cur, h1, _, h3, _⟩
      · rw [h1] at hq; simp [Value.ownBlock] at hq
      · rw [h1] at hq
        injection hq with hq
        exact ⟨cur, by rw [← hq]; exact h3⟩
     refine ⟨k + 1, by omega, ?_, ?_, ⟨fun q hq => ?_, qs ++ [(.slice ab R.before.length cb, .slice aa R.after.length ca, .slice aT R.txns.length ct, .slice ad R.dirty.length cd)], ?_, ?_, ?_⟩, hB6, ?_, ?_⟩
     · rw [HTK.out, encs_append, List.length_append, HHP.out]
       have e1 : (encs [R]).length = Z := by rw [encs_cons, List.length_append, Enc.length_enc, HHZ.out]; simp [encs]
       rw [e1]
       have := HHA.out
       congr 1
       omega
     · have hd := HDR.out
       rw [HHZ.out] at hd
       have := HFR.out
       rw [hd] at this
       obtain ⟨ao', c', e1, e2, e3, e4⟩ := this
       refine ⟨ao', c', e1, e2, e3, fun hne => ?_⟩
       obtain ⟨g', o', f1, f2⟩ := e4 hne
       refine ⟨g', o', f1, fun j u hu => ?_⟩
       have h3 := f2 j u hu
       have hlt' := World.block_lt_of_cell? wr _ h3
       refine (World.cell?_of_block (a := ⟨g', o' + j, none⟩) (hlk g' hlt' (fun e => ?_))).trans h3
       obtain ⟨C, hC⟩ := hl88 g' e.symm
       injection e1 with e1
       have hgg : g' = g := HBG.out g' (cut_blk (by rw [e1, f1]; rfl))
       rw [hgg, HG5.out] at hC
       simp at hC
     · rcases r3 q hq with h1 | h1
       · exact HNEW.out q h1
       · have := hB5.size; omega
     · rw [HTK.out, List.length_append, List.length_append, HQL.out]; rfl
     · rw [HTK.out, List.length_append, linesRow_snoc _ _ _ _ _ HQL.out, HHP.out, HHA.out]
       rw [List.length_take, Nat.min_eq_left (by omega)]
       exact r1
     · intro i R' q' h1 h2
       rw [HTK.out] at h1
       have hlq : qs.length = (rs.take k).length := HQL.out
       by_cases hi : i < (rs.take k).length
       · rw [List.getElem?_append_left hi] at h1
         rw [List.getElem?_append_left (by omega)] at h2
         exact RecOwn_of_block (HREC.out i R' q' h1 h2) hl88 hlk
       · rw [List.getElem?_append_right (by omega)] at h1
         rw [List.getElem?_append_right (by omega), hlq] at h2
         have hi0 : i - (rs.take k).length = 0 := by have := (List.getElem?_eq_some_iff.1 h1).1; simp only [List.length_cons, List.length_nil] at this; omega
         rw [hi0] at h1 h2
         simp at h1 h2
         subst h1; subst h2
         refine RecOwn_of_block (g := (Value.slice la k lc).ownBlock) HROW.out (fun q hq => ?_) (fun q hq hne => (r2.block q (Nat.lt_of_lt_of_le hq HO2.out.size) hne).trans (HO2.out.block q hq (by simp)))
         obtain ⟨C, hC⟩ := hl88 q hq
         exact ⟨C, (HB2.out.block q (Array.getElem?_eq_some_iff.1 hC).1).trans hC⟩
     · refine (hlk g (Array.getElem?_eq_some_iff.1 HG5.out).1 (fun e => ?_)).trans HG5.out
       obtain ⟨C, hC⟩ := hl88 g e.symm
       rw [HG5.out] at hC
       simp at hC
     · intro b hb
       exact HBG.out b (cut_blk (own_map hb))
    case measure =>
     simp [slLen]
     omega
  · have hke : k = rs.length := by omega
    have hnil : encs (rs.drop k) = [] := by rw [hke, List.drop_length]; rfl
    have htkall : rs.take k = rs := by rw [hke, List.take_length]
    have hlr := HLN.out
    rw [htkall] at hlr
    rw [hnil]
    have HLR := hide hlr
    obtain ⟨hnew, qs, hq, ho, hrec⟩ := hlr
    obtain ⟨la, lc, rfl⟩ := Enc.owns_len ho
    clear hnew hq ho hrec hke hnil htkall hc1 HSL hsum
    go_wp2
    go_ret
    exact ⟨_, rfl, HLR.out, HB.out⟩
end
end Go.Proofs.YteeembildppgmaaGreat
