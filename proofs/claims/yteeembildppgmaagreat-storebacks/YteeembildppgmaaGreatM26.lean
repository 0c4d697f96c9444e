/- A part of it: SCommit SRoll SMkP SMark SIsOf. -/
import Derived.Test.YteeembildppgmaaGreatM25
import Derived.BigQuiet
import Derived.Deep.CutBlock
import Derived.RangeFuncRecord
namespace Go.Proofs.YteeembildppgmaaGreat
open Go.RowKit
set_option linter.unusedVariables false
set_option linter.unusedSimpArgs false
def bareRc (k : Int) : Enc.Rc := ⟨k, 0, 0, 0, 0, 0, [], [], [], [], 0⟩
theorem rec_bare (W : World) (k : Int) : Enc.RecVal W (.agg #[.int .i64 k, .int .i64 0, .int .i64 0, .int .i64 0, .int .i64 0, .int .i64 0, .slice none 0 0, .slice none 0 0, .slice none 0 0, .slice none 0 0, .int .i64 0]) (bareRc k) :=
 ⟨_, _, _, _, rfl, Enc.Row.nil W, Enc.Row.nil W, Enc.Row.nil W, Enc.Row.nil W⟩
theorem wf_bare (k : Int) (h0 : 0 ≤ k) (h1 : k ≤ 100) : (bareRc k).wf := ⟨fun y hy => by
 simp only [Enc.Rc.head, bareRc, List.mem_cons, List.not_mem_nil, or_false] at hy
 rcases hy with rfl | rfl | rfl | rfl | rfl | rfl <;> omega, by simp [bareRc], by simp [bareRc], by simp [bareRc]⟩
section
variable {w0 w w' : World} {s : Nat} {c : Cf} {xs tb : List Nat} {ov : Value} {ps : List Nat} {uvs : List Value} {S : St} {V : Nat → List UInt8}
theorem tellBare_ok (h : StIs w0 w s c xs tb ov ps uvs S) {i x : Nat} {T : Tn} {uv : Value} (hx : ps[i]? = some x) (hT : S.txs[i]? = some T) (hu : uvs[i]? = some uv) (k : Int) (h0 : 0 ≤ k) (h1 : k ≤ 100) (hroom : 96 ≤ S.R.room) (hid : T.id ≤ 1000000000000) (hla : T.last ≤ 4398046511104) :
 Calls Tryz.prog 40 #[.pointer (some ⟨s, 0, none⟩), .pointer (some ⟨x, 0, none⟩), .agg #[.int .i64 k, .int .i64 0, .int .i64 0, .int .i64 0, .int .i64 0, .int .i64 0, .slice none 0 0, .slice none 0 0, .slice none 0 0, .slice none 0 0, .int .i64 0]] w fun e w' => e = .returned (.int .i64 0) ∧
  StIs w0 w' s c xs tb ov ps uvs (S.told i T (bareRc k)) ∧ Kept xs w w' ∧ ∀ k ∈ tb, ¬ k = x → w'.heap[k]? = w.heap[k]? :=
 tellOf_ok h hx hT hu (rec_bare w k) (by show 96 + 0 + 0 + 24 * 0 + 16 * 0 ≤ _; omega) (wf_bare k h0 h1) (by show 96 + 0 + 0 + 24 * 0 + 16 * 0 ≤ _; omega) hid hla
theorem StIs.emptied {g cap : Nat} {cur : Array Value} (h : StIs w0 w s c xs tb (.slice (some ⟨g, 0, none⟩) 1 cap) ps uvs S) (hO : Off [s, g] w w') (hr : w'.heap[s]? = some (.cells (stCells c { S with txs := [] } (.slice (some ⟨g, 0, none⟩) 0 cap)) 65 (0, 0)))
 (hg : w'.heap[g]? = some (.cells cur 72 (0, 0))) (hc : cur.size = cap) (hm : cap ≤ maxLen) : StIs w0 w' s c xs tb (.slice (some ⟨g, 0, none⟩) 0 cap) [] [] { S with txs := [] } :=
 have hgt : g ∈ tb := h.inO g rfl
 { pool := h.pool.writeL (fun k hk => by
  simp only [List.mem_cons, List.not_mem_nil, or_false] at hk
  rcases hk with e | e
  · rw [e]; exact ⟨by simp, h.s0⟩
  · rw [e]; exact ⟨by simp [hgt], h.t0 g hgt⟩) hO
   head := hr
   own := ⟨rfl, .inr ⟨g, cap, cur, rfl, Nat.zero_le _, hg, Nat.zero_le _, hm, by omega, by simp [ptrs]⟩⟩
   plen := rfl
   ulen := rfl
   tx := fun i x T uv a b d => by simp at a
   nodup := fun i j x a b => by simp at a
   udis := fun i j u v k a b d e => by simp at a
   s0 := h.s0
   t0 := h.t0
   sx := h.sx
   tbx := h.tbx
   inO := fun k hk => by injection hk with hk; rw [← hk]; exact hgt
   few := by show 0 ≤ 1000; omega
   lg2 := h.lg2
   n8 := h.n8 }
set_option maxHeartbeats 2000000 in
set_option maxRecDepth 100000 in
theorem end_one (h : StIs w0 w s c xs tb ov ps uvs S) (h1 : S.txs.length = 1) {x : Nat} {T : Tn} {uv : Value} (hx : ps[0]? = some x) (hT : S.txs[0]? = some T) (hu : uvs[0]? = some uv) (hroom : 96 ≤ S.R.room) (hid : T.id ≤ 1000000000000) (hla : T.last ≤ 4398046511104) :
 Calls Tryz.prog 42 #[.pointer (some ⟨s, 0, none⟩), .pointer (some ⟨x, 0, none⟩)] w fun e w' => e = .returned (.int .i64 0) ∧
  StAt w0 w' s c xs { S.setR { S.R with held := S.R.held ++ ({ bareRc 6 with txn := (T.id : Int), prev := (T.last : Int) } : Enc.Rc).enc } with txs := [] } ∧ Kept xs w w' := by
 have hb1 : Below w.heap.size w (w.alloc (.cells #[.pointer (some ⟨x, 0, none⟩)] 72)) := (Below.refl _ w).alloc (Nat.le_refl _) _
 have hN1 : (w.alloc (.cells #[.pointer (some ⟨x, 0, none⟩)] 72)).heap[w.heap.size]? = some (.cells #[.pointer (some ⟨x, 0, none⟩)] 72 (0, 0)) := heap_alloc_new w _
 have hq := h.mindNew (w' := w.alloc (.cells #[.pointer (some ⟨x, 0, none⟩)] 72)) (ys := w.heap.size :: xs) hb1 (fun k hk => by
  simp only [List.mem_cons] at hk
  rcases hk with e | e
  · exact .inr ⟨by omega, by rw [e]; simp⟩
  · exact .inl e)
 have HTO := hide (tellBare_ok hq hx hT hu 6 (by omega) (by omega) hroom hid hla)
 have H := hide h
 have HX := hide hx
 have HT := hide hT
 have HU := hide hu
 have HB1 := hide hb1
 have HN1 := hide hN1
 have H1 := hide h1
 clear h hx hT hu hb1 hN1 hq h1
 go_enter Tryz.func42, Tryz.ntmps42
 go_wp2_with fail
 refine HTO.out.mono ?_
 rintro e W2 ⟨rfl, h2, hK2, hKt⟩
 clear HTO
 obtain ⟨N, hN⟩ : ∃ N, w.heap.size = N := ⟨_, rfl⟩
 rw [hN] at h2 hK2 HN1 HB1 ⊢
 have HNE := hide hN
 obtain ⟨g, y, uv', vs, cap, hov, hy, hu2, t2, hcell⟩ := h2.txAt 0 _ (by show (S.txs.set 0 _)[0]? = some _; exact List.getElem?_set_self (by rw [H1.out]; omega))
 rw [HX.out] at hy
 cases hy
 have hl2 : (S.told 0 T (bareRc 6)).txs.length = 1 := by show (S.txs.set 0 _).length = 1; rw [List.length_set]; exact H1.out
 rw [hl2] at hov
 subst hov
 obtain ⟨cur, hcur, hcsz, hcap1, hcap2⟩ : ∃ cur, W2.heap[g]? = some (.cells cur 72 (0, 0)) ∧ cur.size = cap ∧ 1 ≤ cap ∧ cap ≤ maxLen := by
  rcases h2.own.2 with ⟨e1, e2⟩ | ⟨g', cap', cur', e1, e0, e3, e4, e5, e6, e7⟩
  · cases e1
  · injection e1 with f1 f2 f3
    injection f1 with f1
    injection f1 with f1
    subst f1; subst f3
    exact ⟨cur', e3, by omega, by rw [hl2] at e4; omega, e5⟩
 have hN2 : W2.heap[N]? = some (.cells #[.pointer (some ⟨x, 0, none⟩)] 72 (0, 0)) := (hK2.2 N (by simp)).trans HN1.out
 have hB2 : W2.cell? ⟨N, 0, none⟩ = some (.pointer (some ⟨x, 0, none⟩)) := by rw [cell_of_row _ N 0 _ _ _ hN2]; rfl
 have hgs : ¬ g = s := fun e => h2.sx (by rw [← e]; simp [h2.inO g rfl])
 have HDO := hide (deleteOne W2 g cap x N hcell hB2 (frozen_of_row W2 g 0 _ _ hcur) hcap1 hcap2)
 have c4 := h2.c4
 obtain ⟨W3, hW3⟩ : ∃ W3, W2.setCell ⟨g, 0, none⟩ (.pointer none) = W3 := ⟨_, rfl⟩
 have o3 : ∀ q, ¬ q = g → W3.heap[q]? = W2.heap[q]? := fun q hq => by rw [← hW3]; exact heap_setCell_other W2 _ q _ hq
 have g3 : ∃ cur', W3.heap[g]? = some (.cells cur' 72 (0, 0)) ∧ cur'.size = cap := by
  rw [← hW3]
  exact ⟨_, heap_setCell_same W2 g 0 _ _ _ hcur, by simp [hcsz]⟩
 have s3 : W3.heap[s]? = some (.cells (stCells c (S.told 0 T (bareRc 6)) (.slice (some ⟨g, 0, none⟩) 1 cap)) 65 (0, 0)) := (o3 s (fun e => hgs e.symm)).trans h2.head
 have c43 : W3.cell? ⟨s, 4, none⟩ = some (.slice (some ⟨g, 0, none⟩) 1 cap) := by rw [cell_of_row _ s 4 _ _ _ s3]; rfl
 have f43 : W3.frozen? ⟨s, 4, none⟩ = false := frozen_of_row W3 s 4 _ _ s3
 have O3 : Off [s, g] W2 W3 := by rw [← hW3]; exact (Off.refl _ W2).setCell _ _ (.inl (by simp))
 rw [hW3] at HDO
 have H2 := hide h2
 have HK2 := hide hK2
 have HO3 := hide O3
 have HG3 := hide g3
 have HS3 := hide s3
 have HT2 := hide t2
 clear h2 hK2 hKt O3 g3 s3 t2 hW3 o3 hcell hN2 hcur hN hu2
 go_wp2_with (go_at_call 69; refine HDO.out.mono ?_; rintro e w' ⟨rfl, hw⟩; have hw := hw.symm; subst hw)
 go_ret
 obtain ⟨cur', hc1, hc2⟩ := HG3.out
 have hgt : g ∈ tb := H2.out.inO g rfl
 have O4 : Off [s, g] W2 (W3.setCell ⟨s, 4, none⟩ (.slice (some ⟨g, 0, none⟩) 0 cap)) := HO3.out.setCell _ _ (.inl (by simp))
 refine ⟨rfl, ?_, ?_⟩
 · have := H2.out.emptied O4 (by rw [heap_setCell_same W3 s 4 _ _ _ HS3.out]; rfl) ((heap_setCell_other W3 _ g _ hgs).trans hc1) hc2 hcap2
   exact (this.mind (ys := xs) (fun k hk => by simp [hk])).at
 · refine ⟨by rw [HNE.out]; exact Nat.le_trans (Nat.le_of_lt (by have := (Array.getElem?_eq_some_iff.1 HN1.out).1; exact Nat.lt_of_lt_of_le this HK2.out.1)) O4.size, fun k hk => (O4.block k (H2.out.lt (by simp [hk])) (by
    simp only [List.mem_cons, List.not_mem_nil, or_false]
    rintro (e | e)
    · exact H.out.sx (by rw [← e]; simp [hk])
    · exact H.out.tbx g hgt (by rw [← e]; exact hk))).trans ((HK2.out.2 k (by simp [hk])).trans (HB1.out.block k (by have := H.out.lt hk; have := HNE.out; omega)))⟩
set_option maxHeartbeats 1000000 in
theorem save_ok (h : StIs w0 w s c xs tb ov ps uvs S) {i x : Nat} {T : Tn} {uv : Value} (hx : ps[i]? = some x) (hT : S.txs[i]? = some T) (hu : uvs[i]? = some uv) (hno : ∀ (j : Nat) U, j < i → S.txs[j]? = some U → U.id ≠ T.id) (n : Int) (hn : n = (T.id : Int)) :
 Calls Tryz.prog 11 #[.pointer (some ⟨s, 0, none⟩), .int .i64 n] w fun e w' => e = .returned (.tuple #[.int .i64 (T.last : Int), .int .i64 0]) ∧ w' = w := by
 obtain ⟨vs, t⟩ := h.tx i x T uv hx hT hu
 have x2 := t.c2
 have HF := hide (sfind_ok h hx hT hno n hn)
 clear h hx hT hu hno hn t
 go_enter Tryz.func11, Tryz.ntmps11
 go_wp2_with (go_at_call 31; refine HF.out.mono ?_; rintro e w' ⟨rfl, hw⟩; have hw := hw.symm; subst hw)
 go_ret2
 exact ⟨rfl, rfl⟩
theorem len_bare (k : Int) (a b : Int) : ({ bareRc k with txn := a, prev := b } : Enc.Rc).enc.length = 96 := by rw [Enc.length_enc]; rfl
theorem Rg.room_more (R : Rg) (l : List UInt8) : ({ R with held := R.held ++ l } : Rg).room = R.room - l.length := by
 show (R.start / 118 + R.n - 1) * 118 - (R.start + (R.held ++ l).length) = (R.start / 118 + R.n - 1) * 118 - (R.start + R.held.length) - l.length
 rw [List.length_append]
 omega
theorem Rg.tail_more (R : Rg) (l : List UInt8) : ({ R with held := R.held ++ l } : Rg).tail = R.tail + l.length := by
 show R.start + (R.held ++ l).length = R.start + R.held.length + l.length
 rw [List.length_append]
 omega
end
end Go.Proofs.YteeembildppgmaaGreat
namespace Go.Proofs.YteeembildppgmaaGreat
open Go.RowKit
set_option linter.unusedVariables false
set_option linter.unusedSimpArgs false
def undoV (u : Up) (t : Nat) (V : Nat → List UInt8) : Nat → List UInt8 := fun q => if q = u.page then patch (patch (V u.page) 0 (be8 (t + 1))) (8 + u.off) u.after else V q
def rbV : List Up → Nat → (Nat → List UInt8) → Nat → List UInt8
 | [], _, V => V
 | u :: r, t, V => rbV r (t + u.sz) (undoV u t V)
def rbH : List Up → Nat → Nat → Nat → List UInt8
 | [], _, _, _ => []
 | u :: r, id, t, last => ({ u.rc with txn := (id : Int), prev := (last : Int) } : Enc.Rc).enc ++ rbH r id (t + u.sz) (t + 1)
def rbL : List Up → Nat → Nat → Nat
 | [], _, last => last
 | u :: r, t, last => rbL r (t + u.sz) (t + 1)
def UpsOk (n : Nat) (us : List Up) : Prop := ∀ u ∈ us, u.page < n ∧ 1 ≤ u.after.length ∧ u.off + u.after.length ≤ 504 ∧ u.next ≤ 4398046511104
theorem len_up (u : Up) (a b : Int) : ({ u.rc with txn := a, prev := b } : Enc.Rc).enc.length = u.sz := by
 rw [Enc.length_enc]
 show 96 + 0 + u.after.length + 24 * 0 + 16 * 0 = 96 + u.after.length
 omega
theorem resU_snoc (us : List Up) (u : Up) : resU (us ++ [u]) = resU us + u.sz := by simp [resU]
section
variable {w0 w w' : World} {s : Nat} {c : Cf} {xs tb : List Nat} {ov : Value} {ps : List Nat} {uvs : List Value} {S : St} {V : Nat → List UInt8}
theorem StIs.tailLe (h : StIs w0 w s c xs tb ov ps uvs S) : S.R.tail ≤ 2199025255552 := by
 obtain ⟨bl, vs2, gp, D, hpx, hy⟩ := h.asRing
 have h1 := hy.rg.wf.start
 have h2 := hy.rg.wf.held
 show S.R.start + S.R.held.length ≤ _
 omega
structure Rb (w0 w wk : World) (s : Nat) (c : Cf) (xs : List Nat) (S : St) (x id : Nat) (VF : Nat → List UInt8) (HF : List UInt8) (LF W : Nat) (us : List Up) : Prop where
 is : ∃ (Sk : St) (Tk : Tn) (Vk : Nat → List UInt8) (tb : List Nat) (ov : Value) (ps : List Nat) (uvs : List Value) (uv : Value), StIs w0 wk s c xs tb ov ps uvs Sk ∧ Sk.txs = [Tk] ∧ ps[0]? = some x ∧ uvs[0]? = some uv ∧ Tk.ups = us ∧ Tk.id = id ∧ Tk.last ≤ 4398046511104 ∧ PInv c.n Sk.pool Vk ∧
  rbV us.reverse Sk.R.tail Vk = VF ∧ Sk.R.held ++ rbH us.reverse id Sk.R.tail Tk.last = HF ∧ rbL us.reverse Sk.R.tail Tk.last = LF ∧ Sk.pool.wr + 2 * us.length ≤ W ∧ Sk.pool.fs.length = S.pool.fs.length ∧ 96 + resU us ≤ Sk.R.room ∧
  (∃ f, Sk.R = { S.R with held := Sk.R.held, fin := f }) ∧ Sk = { S with pool := Sk.pool, txs := Sk.txs }
 ok : UpsOk c.n us
 kept : Kept xs w wk
 few : us.length ≤ 1000000000
theorem Rb.step {wk : World} {x id LF W : Nat} {VF : Nat → List UInt8} {HF : List UInt8} {us : List Up} {u : Up} (r : Rb w0 w wk s c xs S x id VF HF LF W (us ++ [u])) (hW : W ≤ 1000000) (hid : id ≤ 1000000000000) :
 Calls Tryz.prog 39 #[.pointer (some ⟨s, 0, none⟩), .pointer (some ⟨x, 0, none⟩)] wk fun e w' => e = .returned (.int .i64 0) ∧ Rb w0 w w' s c xs S x id VF HF LF W us := by
 obtain ⟨⟨Sk, Tk, Vk, tb, ov, ps, uvs, uv, h, htx, hx, hu, hups, hTid, hla, hi, hV, hH, hL, hwr, hfs, hroom, hR, hS⟩, ok, kept, few⟩ := r
 have hT : Sk.txs[0]? = some Tk := by rw [htx]; rfl
 obtain ⟨o1, o2, o3, o4⟩ := ok u (by simp)
 have hlen : (us ++ [u]).length = us.length + 1 := by simp
 rw [hlen] at hwr few
 have hsz : u.sz = 96 + u.after.length := rfl
 rw [resU_snoc] at hroom
 refine (undoNewest_ok h hx hT hu us.length u (by rw [hups]; exact hlen) (by rw [hups]; simp) hi (by omega) o1 o2 o3 (by omega) (by omega) hla o4 (by omega)).mono ?_
 rintro e w' ⟨rfl, pl, uvs', h', hi', hr', hw', hf', hk'⟩
 have hlu : uvs'[0]? = some (uvs'[0]?.getD default) := by
  have h1 := h'.ulen
  have h2 : uvs'.length = 1 := by rw [h1]; show (Sk.txs.set 0 _).length = 1; rw [List.length_set, htx]; rfl
  rw [List.getElem?_eq_getElem (by omega)]
  rfl
 obtain ⟨f, hf⟩ := hr'
 have hpr : pl.fo.1 = { Sk.R with held := Sk.R.held ++ ({ u.rc with txn := (Tk.id : Int), prev := (Tk.last : Int) } : Enc.Rc).enc, fin := f } := by rw [hf]
 have htl := h.tailLe
 have eR : (St.R { Sk with pool := pl, txs := Sk.txs.set 0 { Tk with last := Sk.R.tail + 1, ups := Tk.ups.take us.length } }) = pl.fo.1 := rfl
 have eT : pl.fo.1.tail = Sk.R.tail + u.sz := by
  rw [hpr]
  show Sk.R.start + (Sk.R.held ++ _).length = Sk.R.start + Sk.R.held.length + u.sz
  rw [List.length_append, len_up]
  omega
 have eM : pl.fo.1.room = Sk.R.room - u.sz := by
  rw [hpr]
  have := Rg.room_more Sk.R ({ u.rc with txn := (Tk.id : Int), prev := (Tk.last : Int) } : Enc.Rc).enc
  rw [len_up] at this
  exact this
 refine ⟨rfl, ⟨_, { Tk with last := Sk.R.tail + 1, ups := Tk.ups.take us.length }, _, tb, ov, ps, uvs', _, h', by show Sk.txs.set 0 _ = _; rw [htx]; rfl, hx, hlu, by show Tk.ups.take us.length = us; rw [hups]; simp, hTid, by show Sk.R.tail + 1 ≤ _; omega, hi', ?_, ?_, ?_, by show pl.wr + _ ≤ W; omega, by show pl.fs.length = _; rw [hf', hfs], by rw [eR, eM]; omega, ?_, ?_⟩, fun v hv => ok v (by simp [hv]), kept.trans hk', by omega⟩
 · rw [← hV, eR, eT]
   simp only [List.reverse_append, List.reverse_cons, List.reverse_nil, List.nil_append, List.singleton_append]
   rfl
 · rw [← hH, eR, eT]
   simp only [List.reverse_append, List.reverse_cons, List.reverse_nil, List.nil_append, List.singleton_append]
   rw [hpr]
   show (Sk.R.held ++ _) ++ rbH us.reverse id _ (Sk.R.tail + 1) = Sk.R.held ++ (_ ++ rbH us.reverse id _ (Sk.R.tail + 1))
   rw [List.append_assoc, hTid]
 · rw [← hL, eR, eT]
   simp only [List.reverse_append, List.reverse_cons, List.reverse_nil, List.nil_append, List.singleton_append]
   rfl
 · obtain ⟨f0, hf0⟩ := hR
   refine ⟨f, ?_⟩
   rw [eR, hpr, hf0]
 · rw [hS]
theorem Rb.c3 {wk : World} {x id LF W : Nat} {VF : Nat → List UInt8} {HF : List UInt8} {us : List Up} (r : Rb w0 w wk s c xs S x id VF HF LF W us) : ∃ ao cc, wk.cell? ⟨x, 3, none⟩ = some (.slice ao us.length cc) := by
 obtain ⟨⟨Sk, Tk, Vk, tb, ov, ps, uvs, uv, h, htx, hx, hu, hups, hTid, hla, hi, hV, hH, hL, hwr, hfs, hroom, hR, hS⟩, ok, kept, few⟩ := r
 obtain ⟨vs, t⟩ := h.tx 0 x Tk uv hx (by rw [htx]; rfl) hu
 obtain ⟨ao, cc, e⟩ := t.uvlen
 exact ⟨ao, cc, by rw [t.c3, e, hups]⟩
theorem Rb.fin {wk : World} {x id LF W : Nat} {VF : Nat → List UInt8} {HF : List UInt8} (r : Rb w0 w wk s c xs S x id VF HF LF W []) (hid : id ≤ 1000000000000) :
 Calls Tryz.prog 42 #[.pointer (some ⟨s, 0, none⟩), .pointer (some ⟨x, 0, none⟩)] wk fun e w' => e = .returned (.int .i64 0) ∧ ∃ pl, StAt w0 w' s c xs { S with pool := pl, txs := [] } ∧ PInv c.n pl VF ∧ pl.wr ≤ W ∧ pl.fs.length = S.pool.fs.length ∧
  RS { S.R with held := HF ++ ({ bareRc 6 with txn := (id : Int), prev := (LF : Int) } : Enc.Rc).enc } pl.fo.1 ∧ Kept xs w w' := by
 obtain ⟨⟨Sk, Tk, Vk, tb, ov, ps, uvs, uv, h, htx, hx, hu, hups, hTid, hla, hi, hV, hH, hL, hwr, hfs, hroom, hR, hS⟩, ok, kept, few⟩ := r
 have hT : Sk.txs[0]? = some Tk := by rw [htx]; rfl
 refine (end_one h (by rw [htx]; rfl) hx hT hu (by omega) (by omega) hla).mono ?_
 rintro e w' ⟨rfl, h', hk'⟩
 obtain ⟨f, hf⟩ := hR
 refine ⟨rfl, { Sk.pool with fo := ({ Sk.R with held := Sk.R.held ++ ({ bareRc 6 with txn := (Tk.id : Int), prev := (Tk.last : Int) } : Enc.Rc).enc }, Sk.pool.fo.2) }, ?_, ?_, ?_, ?_, ?_, kept.trans hk'⟩
 rotate_left
 · rw [← hV]
   exact hi.setR { Sk.R with held := Sk.R.held ++ ({ bareRc 6 with txn := (Tk.id : Int), prev := (Tk.last : Int) } : Enc.Rc).enc }
 · show Sk.pool.wr ≤ W
   omega
 · exact hfs
 · have e1 : Sk.R.held = HF := by rw [← hH]; simp [rbH]
   have e2 : Tk.last = LF := hL
   refine ⟨f, ?_⟩
   show ({ Sk.R with held := Sk.R.held ++ ({ bareRc 6 with txn := (Tk.id : Int), prev := (Tk.last : Int) } : Enc.Rc).enc } : Rg) = _
   rw [e1, e2, hTid]
   rw [hf]
 · have e3 : ({ Sk.setR { Sk.R with held := Sk.R.held ++ ({ bareRc 6 with txn := (Tk.id : Int), prev := (Tk.last : Int) } : Enc.Rc).enc } with txs := [] } : St) = { S with pool := { Sk.pool with fo := ({ Sk.R with held := Sk.R.held ++ ({ bareRc 6 with txn := (Tk.id : Int), prev := (Tk.last : Int) } : Enc.Rc).enc }, Sk.pool.fo.2) }, txs := [] } := by
    rw [hS]
    rfl
   rw [e3] at h'
   exact h'
def upsIn (x : Nat) (w : World) : Nat := match w.cell? ⟨x, 3, none⟩ with
 | some (.slice _ n _) => n
 | _ => 0
theorem Rb.upsIn {wk : World} {x id LF W : Nat} {VF : Nat → List UInt8} {HF : List UInt8} {us : List Up} (r : Rb w0 w wk s c xs S x id VF HF LF W us) : YteeembildppgmaaGreat.upsIn x wk = us.length := by
 obtain ⟨ao, cc, h⟩ := r.c3
 unfold YteeembildppgmaaGreat.upsIn
 rw [h]
set_option maxHeartbeats 2000000 in
set_option maxRecDepth 100000 in
theorem rollback_one (h : StIs w0 w s c xs tb ov ps uvs S) {T : Tn} (h1 : S.txs = [T]) (hi : PInv c.n S.pool V) (hok : UpsOk c.n T.ups) (hroom : 192 + resU T.ups ≤ S.R.room) (hid : T.id ≤ 1000000000000) (hla : T.last ≤ 4398046511104) (hwr : S.pool.wr + 2 * T.ups.length ≤ 1000000) (n : Int) (hn : n = (T.id : Int)) :
 Calls Tryz.prog 26 #[.pointer (some ⟨s, 0, none⟩), .int .i64 n] w fun e w' => e = .returned (.int .i64 0) ∧ ∃ pl, StAt w0 w' s c xs { S with pool := pl, txs := [] } ∧ PInv c.n pl (rbV T.ups.reverse (S.R.tail + 96) V) ∧ pl.wr ≤ S.pool.wr + 2 * T.ups.length ∧ pl.fs.length = S.pool.fs.length ∧
  RS { S.R with held := S.R.held ++ ({ bareRc 5 with txn := (T.id : Int), prev := (T.last : Int) } : Enc.Rc).enc ++ rbH T.ups.reverse T.id (S.R.tail + 96) (S.R.tail + 1) ++ ({ bareRc 6 with txn := (T.id : Int), prev := ((rbL T.ups.reverse (S.R.tail + 96) (S.R.tail + 1) : Nat) : Int) } : Enc.Rc).enc } pl.fo.1 ∧ Kept xs w w' := by
 have hT : S.txs[0]? = some T := by rw [h1]; rfl
 obtain ⟨g, x, uv, vs, cc, hov, hx, hu, t, hcell⟩ := h.txAt 0 T hT
 have HF := hide (sfind_ok h hx hT (fun j U hj => by omega) n hn)
 have HTO := hide (tellBare_ok h hx hT hu 5 (by omega) (by omega) (by omega) hid hla)
 have htl := h.tailLe
 have hlen := length_resU T.ups
 have hfew : T.ups.length ≤ 1000000000 := by omega
 obtain ⟨VF, hVF⟩ : ∃ VF, rbV T.ups.reverse (S.R.tail + 96) V = VF := ⟨_, rfl⟩
 obtain ⟨HH, hHH⟩ : ∃ HH, S.R.held ++ ({ bareRc 5 with txn := (T.id : Int), prev := (T.last : Int) } : Enc.Rc).enc ++ rbH T.ups.reverse T.id (S.R.tail + 96) (S.R.tail + 1) = HH := ⟨_, rfl⟩
 obtain ⟨LF, hLF⟩ : ∃ LF, rbL T.ups.reverse (S.R.tail + 96) (S.R.tail + 1) = LF := ⟨_, rfl⟩
 rw [hVF, hHH, hLF]
 have HR1 : Hid (∀ W2, StIs w0 W2 s c xs tb ov ps uvs (S.told 0 T (bareRc 5)) → Kept xs w W2 → Rb w0 w W2 s c xs S x T.id VF HH LF (S.pool.wr + 2 * T.ups.length) T.ups) := fun W2 h2 hK2 => by
  have eT : (S.told 0 T (bareRc 5)).R.tail = S.R.tail + 96 := by
   show Rg.tail { S.R with held := S.R.held ++ _ } = _
   rw [Rg.tail_more, len_bare]
  refine ⟨⟨_, { T with last := S.R.tail + 1 }, V, tb, ov, ps, uvs, uv, h2, by show S.txs.set 0 _ = _; rw [h1]; rfl, hx, hu, rfl, rfl, by show S.R.tail + 1 ≤ _; omega, hi.setR { S.R with held := S.R.held ++ ({ bareRc 5 with txn := (T.id : Int), prev := (T.last : Int) } : Enc.Rc).enc }, by rw [eT]; exact hVF, by rw [eT]; exact hHH, by rw [eT]; exact hLF, Nat.le_refl _, rfl, ?_, ⟨S.R.fin, rfl⟩, rfl⟩, hok, hK2, hfew⟩
  show _ ≤ Rg.room { S.R with held := S.R.held ++ _ }
  rw [Rg.room_more, len_bare]
  omega
 have hW : S.pool.wr + 2 * T.ups.length ≤ 1000000 := hwr
 clear h hx hT hu hroom hcell t hov hn hi hok hVF hHH hLF hla h1 hlen hwr htl
 go_enter Tryz.func26, Tryz.ntmps26
 go_wp2
 refine wp_scope_two 0 1 (fun a' w' => ∃ (us : List Up) (u6 u7 u8 u9 u10 u11 u12 u13 u14 u15 u16 u17 u18 u19 u20 u21 u22 u23 u24 u25 u26 u27 u28 u29 u30 u31 u32 u33 u34 u35 u36 u37 : Value), a' = { tmps := #[.pointer (some ⟨s, 0, none⟩), .int .i64 n, undef, undef, .int .i64 0, .pointer (some ⟨x, 0, none⟩), u6, u7, u8, u9, u10, u11, u12, u13, u14, u15, u16, u17, u18, u19, u20, u21, u22, u23, u24, u25, u26, u27, u28, u29, u30, u31, u32, u33, u34, u35, u36, u37], defers := [] } ∧ Rb w0 w w' s c xs S x T.id VF HH LF (S.pool.wr + 2 * T.ups.length) us) (fun a' w' => ∃ (u6 u7 u8 u9 u10 u11 u12 u13 u14 u15 u16 u17 u18 u19 u20 u21 u22 u23 u24 u25 u26 u27 u28 u29 u30 u31 u32 u33 u34 u35 u36 u37 : Value), a' = { tmps := #[.pointer (some ⟨s, 0, none⟩), .int .i64 n, undef, undef, .int .i64 0, .pointer (some ⟨x, 0, none⟩), u6, u7, u8, u9, u10, u11, u12, u13, u14, u15, u16, u17, u18, u19, u20, u21, u22, u23, u24, u25, u26, u27, u28, u29, u30, u31, u32, u33, u34, u35, u36, u37], defers := [] } ∧ Rb w0 w w' s c xs S x T.id VF HH LF (S.pool.wr + 2 * T.ups.length) []) (fun _ w' => upsIn x w') rfl rfl ?_ ?_ ?_
 · go_wp2_with (first
    | (go_at_call 31; refine HF.out.mono ?_; rintro e w' ⟨rfl, hw⟩; have hw := hw.symm; subst hw)
    | (go_at_call 40; refine HTO.out.mono ?_; rintro e W2 ⟨rfl, h2, hK2, -⟩; have HR2 := hide (HR1.out W2 h2 hK2); clear h2 hK2))
   go_step3
   exact .inl ⟨rfl, _, _, _, _, _, _, _, _, _, _, _, _, _, _, _, _, _, _, _, _, _, _, _, _, _, _, _, _, _, _, _, _, _, rfl, HR2.out⟩
 · rintro a' wk ⟨us, u6, u7, u8, u9, u10, u11, u12, u13, u14, u15, u16, u17, u18, u19, u20, u21, u22, u23, u24, u25, u26, u27, u28, u29, u30, u31, u32, u33, u34, u35, u36, u37, rfl, hr⟩
   obtain ⟨ao, cc', x3⟩ := hr.c3
   have hfew2 := hr.few
   rcases List.eq_nil_or_concat us with rfl | ⟨vs', u, rfl⟩
   · have HR := hide hr
     clear hr
     go_wp2
     go_step3
     exact .inr ⟨rfl, _, _, _, _, _, _, _, _, _, _, _, _, _, _, _, _, _, _, _, _, _, _, _, _, _, _, _, _, _, _, _, _, rfl, HR.out⟩
   · have hlen2 : (vs'.concat u).length = vs'.length + 1 := by simp
     rw [hlen2] at x3 hfew2
     have hz : (((vs'.length + 1 : Nat) : Int) == 0) = false := by simp; omega
     have hr' : Rb w0 w wk s c xs S x T.id VF HH LF (S.pool.wr + 2 * T.ups.length) (vs' ++ [u]) := by rw [← List.concat_eq_append]; exact hr
     have HST := hide (hr'.step hW hid)
     have HMU : Hid (upsIn x wk = vs'.length + 1) := by show _ = _; rw [hr.upsIn, hlen2]
     clear hr hr'
     go_wp2_with (go_at_call 39; refine HST.out.mono ?_; rintro e W3 ⟨rfl, h3⟩; have H3 := hide h3; clear h3)
     go_step3
     exact .inl ⟨rfl, ⟨_, _, _, _, _, _, _, _, _, _, _, _, _, _, _, _, _, _, _, _, _, _, _, _, _, _, _, _, _, _, _, _, _, rfl, H3.out⟩, by rw [HMU.out, H3.out.upsIn]; omega⟩
 · rintro a' wk ⟨u6, u7, u8, u9, u10, u11, u12, u13, u14, u15, u16, u17, u18, u19, u20, u21, u22, u23, u24, u25, u26, u27, u28, u29, u30, u31, u32, u33, u34, u35, u36, u37, rfl, hr⟩
   have HFI := hide (hr.fin hid)
   clear hr
   go_wp2_with (go_at_call 42; refine HFI.out.mono ?_; rintro e W3 ⟨rfl, h3⟩; have H3 := hide h3; clear h3)
   rw [Exit.noGoto_ret]
   go_ret
   exact ⟨rfl, H3.out⟩
end
end Go.Proofs.YteeembildppgmaaGreat
namespace Go.Proofs.YteeembildppgmaaGreat
open Go.RowKit
set_option linter.unusedVariables false
set_option linter.unusedSimpArgs false
def dat (V : Nat → List UInt8) : Nat → List UInt8 := fun q => (V q).drop 8
def wrD (p o : Nat) (ns : List UInt8) (D : Nat → List UInt8) : Nat → List UInt8 := fun q => if q = p then patch (D p) o ns else D q
def undL : List Up → (Nat → List UInt8) → Nat → List UInt8
 | [], D => D
 | u :: r, D => undL r (wrD u.page u.off u.after D)
theorem undL_append : ∀ (a b : List Up) (D : Nat → List UInt8), undL (a ++ b) D = undL b (undL a D)
 | [], _, _ => rfl
 | u :: a, b, D => undL_append a b _
theorem drop_patch (bs : List UInt8) (o : Nat) (ns : List UInt8) (h : 8 + o ≤ bs.length) : (patch bs (8 + o) ns).drop 8 = patch (bs.drop 8) o ns := by
 unfold patch
 rw [List.drop_append_of_le_length (by rw [List.length_take]; omega), List.drop_take, List.drop_drop, show 8 + o - 8 = o by omega, show 8 + (o + ns.length) = 8 + o + ns.length by omega]
theorem drop_head (bs : List UInt8) (hd : List UInt8) (h8 : hd.length = 8) : (patch bs 0 hd).drop 8 = bs.drop 8 := by
 unfold patch
 rw [List.take_zero, List.nil_append, List.drop_append_of_le_length (by omega), List.drop_eq_nil_of_le (by omega), List.nil_append, h8, Nat.zero_add]
theorem patch_back (bs : List UInt8) (o : Nat) (ns : List UInt8) (h : o + ns.length ≤ bs.length) : patch (patch bs o ns) o ((bs.drop o).take ns.length) = bs := by
 have hl : ((bs.drop o).take ns.length).length = ns.length := by rw [List.length_take, List.length_drop]; omega
 have h1 : (bs.take o).length = o := by rw [List.length_take]; omega
 unfold patch
 rw [hl, List.take_append_of_le_length (by omega), List.take_take, Nat.min_self]
 have h2 : (bs.take o ++ (ns ++ bs.drop (o + ns.length))).drop (o + ns.length) = bs.drop (o + ns.length) := by
  rw [List.drop_append, List.drop_eq_nil_of_le (by omega), List.nil_append, h1, show o + ns.length - o = ns.length by omega, List.drop_append, List.drop_eq_nil_of_le (Nat.le_refl _), List.nil_append, Nat.sub_self, List.drop_zero]
 rw [h2]
 have h3 : bs.drop o = (bs.drop o).take ns.length ++ bs.drop (o + ns.length) := by
  rw [← List.drop_drop, List.take_append_drop]
 rw [← h3, List.take_append_drop]
theorem wrD_back (p o : Nat) (ns : List UInt8) (D : Nat → List UInt8) (h : o + ns.length ≤ (D p).length) : wrD p o (((D p).drop o).take ns.length) (wrD p o ns D) = D := by
 funext q
 unfold wrD
 by_cases e : q = p
 · subst e
   simp only [if_true]
   exact patch_back _ _ _ h
 · simp only [if_neg e]
abbrev Dt := Nat → List UInt8
def behind (m : Nat) (us : List Up) : List Up := us.filter (fun u => decide (m < u.lsn))
def upTo (m : Nat) (us : List Up) : List Up := us.filter (fun u => decide (u.lsn ≤ m))
theorem rise_split : ∀ (us : List Up) (m : Nat), us.Pairwise (fun a b => a.lsn < b.lsn) → us = upTo m us ++ behind m us
 | [], _, _ => rfl
 | u :: r, m, h => by
   obtain ⟨h1, h2⟩ := List.pairwise_cons.1 h
   have ih := rise_split r m h2
   unfold upTo behind at ih ⊢
   by_cases hu : u.lsn ≤ m
   · rw [List.filter_cons_of_pos (by simpa using hu), List.filter_cons_of_neg (by simp; omega), List.cons_append, ← ih]
   · have e1 : (u :: r).filter (fun u => decide (u.lsn ≤ m)) = [] := by
      rw [List.filter_eq_nil_iff]
      intro v hv
      rcases List.mem_cons.1 hv with rfl | hv
      · simpa using hu
      · have := h1 v hv
        simp
        omega
     have e2 : (u :: r).filter (fun u => decide (m < u.lsn)) = u :: r := by
      rw [List.filter_eq_self]
      intro v hv
      rcases List.mem_cons.1 hv with rfl | hv
      · simp; omega
      · have := h1 v hv
        simp
        omega
     rw [e1, e2]
     rfl
def Goes (ms : List (Nat × Dt)) (us : List Up) (D : Dt) : Prop := ∀ x ∈ ms, undL (behind x.1 us).reverse D = x.2
theorem behind_none {m : Nat} {us : List Up} (h : ∀ u ∈ us, u.lsn ≤ m) : behind m us = [] := by
 unfold behind
 rw [List.filter_eq_nil_iff]
 intro v hv
 have := h v hv
 simp
 omega
theorem Goes.here {ms : List (Nat × Dt)} {us : List Up} {D : Dt} (h : Goes ms us D) (m : Nat) (hm : ∀ u ∈ us, u.lsn ≤ m) : Goes (ms ++ [(m, D)]) us D := fun x hx => by
 rcases List.mem_append.1 hx with hx | hx
 · exact h x hx
 · simp at hx
   subst hx
   show undL (behind m us).reverse D = D
   rw [behind_none hm]
   rfl
theorem Goes.more {ms : List (Nat × Dt)} {us : List Up} {D D' : Dt} (h : Goes ms us D) (u : Up) (hl : ∀ x ∈ ms, x.1 < u.lsn) (hb : wrD u.page u.off u.after D' = D) : Goes ms (us ++ [u]) D' := fun x hx => by
 have e : behind x.1 (us ++ [u]) = behind x.1 us ++ [u] := by
  unfold behind
  rw [List.filter_append, List.filter_cons_of_pos (by simpa using hl x hx)]
  rfl
 rw [e, List.reverse_append]
 show undL (behind x.1 us).reverse (wrD u.page u.off u.after D') = x.2
 rw [hb]
 exact h x hx
theorem Goes.back {ms : List (Nat × Dt)} {us : List Up} {D : Dt} (h : Goes ms us D) (m : Nat) (hr : us.Pairwise (fun a b => a.lsn < b.lsn)) (hl : ∀ x ∈ ms, x.1 ≤ m) : Goes ms (upTo m us) (undL (behind m us).reverse D) := fun x hx => by
 have hs := rise_split us m hr
 have e : behind x.1 us = behind x.1 (upTo m us) ++ behind m us := by
  conv => lhs; rw [hs]
  unfold behind
  rw [List.filter_append]
  congr 1
  rw [List.filter_eq_self]
  intro v hv
  have := (List.mem_filter.1 hv).2
  have := hl x hx
  simp at *
  omega
 have := h x hx
 rw [e, List.reverse_append, undL_append] at this
 exact this
theorem undo_dat {n : Nat} {V : Nat → List UInt8} (hv : ∀ q, q < n → (V q).length = 512) (u : Up) (t : Nat) (hp : u.page < n) (ho : u.off + u.after.length ≤ 504) :
 dat (undoV u t V) = wrD u.page u.off u.after (dat V) ∧ ∀ q, q < n → (undoV u t V q).length = 512 := by
 have h1 : (patch (V u.page) 0 (be8 (t + 1))).length = 512 := by
  rw [length_patch _ _ _ (by rw [hv _ hp, length_be8]; omega)]
  exact hv _ hp
 refine ⟨?_, fun q hq => ?_⟩
 · funext q
   unfold dat undoV wrD
   by_cases e : q = u.page
   · subst e
     simp only [if_true]
     rw [drop_patch _ _ _ (by rw [h1]; omega), drop_head _ _ (length_be8 _)]
   · simp only [if_neg e]
 · unfold undoV
   by_cases e : q = u.page
   · subst e
     simp only [if_true]
     rw [length_patch _ _ _ (by rw [h1]; omega)]
     exact h1
   · simp only [if_neg e]
     exact hv q hq
theorem rb_dat {n : Nat} : ∀ (us : List Up) (t : Nat) (V : Nat → List UInt8), (∀ q, q < n → (V q).length = 512) → UpsOk n us → dat (rbV us t V) = undL us (dat V)
 | [], _, _, _, _ => rfl
 | u :: r, t, V, hv, ok => by
   obtain ⟨o1, o2, o3, o4⟩ := ok u (by simp)
   obtain ⟨e1, e2⟩ := undo_dat hv u t o1 o3
   show dat (rbV r (t + u.sz) (undoV u t V)) = undL r (wrD u.page u.off u.after (dat V))
   rw [rb_dat r _ _ e2 (fun v hv => ok v (by simp [hv])), e1]
theorem write_dat {n : Nat} {V : Nat → List UInt8} (hv : ∀ q, q < n → (V q).length = 512) (p o t : Nat) (ns : List UInt8) (hp : p < n) (ho : o + ns.length ≤ 504) :
 dat (fun q => if q = p then patch (patch (V p) 0 (be8 t)) (8 + o) ns else V q) = wrD p o ns (dat V) := by
 have h1 : (patch (V p) 0 (be8 t)).length = 512 := by
  rw [length_patch _ _ _ (by rw [hv _ hp, length_be8]; omega)]
  exact hv _ hp
 funext q
 unfold dat wrD
 by_cases e : q = p
 · subst e
   simp only [if_true]
   rw [drop_patch _ _ _ (by rw [h1]; omega), drop_head _ _ (length_be8 _)]
 · simp only [if_neg e]
end Go.Proofs.YteeembildppgmaaGreat
namespace Go.Proofs.YteeembildppgmaaGreat
open Go.RowKit
set_option linter.unusedVariables false
set_option linter.unusedSimpArgs false
section
variable {w0 w w' : World} {s : Nat} {c : Cf} {xs tb : List Nat} {ov : Value} {ps : List Nat} {uvs : List Value} {S : St}
set_option maxHeartbeats 1000000 in
theorem changed_none {i x : Nat} {T : Tn} {uv : Value} (h : StIs w0 w s c xs tb ov ps uvs S) (hx : ps[i]? = some x) (hT : S.txs[i]? = some T) (hu : uvs[i]? = some uv) (h0 : T.ups = []) (mark : Int) :
 Calls Tryz.prog 38 #[.pointer (some ⟨x, 0, none⟩), .int .i64 mark] w fun e w' => e = .returned (.bool false) ∧ w' = w := by
 obtain ⟨vs, t⟩ := h.tx i x T uv hx hT hu
 have c3 : w.cell? ⟨x, 3, none⟩ = some uv := by rw [cell_of_row w x 3 _ _ _ t.head]; rfl
 have ho := t.ups
 rw [h0] at ho
 obtain ⟨ao, k, rfl⟩ : ∃ ao k, uv = .slice ao 0 k := by
  rcases ho.2 with ⟨h1, h2⟩ | ⟨g, cap, cur, h1, _⟩
  · exact ⟨none, 0, h1⟩
  · exact ⟨_, _, h1⟩
 clear h t ho hT hu
 go_enter Tryz.func38, Tryz.ntmps38
 go_wp2
 go_ret
 exact ⟨rfl, rfl⟩
set_option maxHeartbeats 1000000 in
theorem changed_some {i x : Nat} {T : Tn} {uv : Value} (h : StIs w0 w s c xs tb ov ps uvs S) (hx : ps[i]? = some x) (hT : S.txs[i]? = some T) (hu : uvs[i]? = some uv) (k : Nat) (u : Up) (hk : T.ups.length = k + 1) (hl : T.ups[k]? = some u) (hkb : k ≤ 1000000000) (mark : Int) :
 Calls Tryz.prog 38 #[.pointer (some ⟨x, 0, none⟩), .int .i64 mark] w fun e w' => e = .returned (.bool (decide (mark < (u.lsn : Int)))) ∧ w' = w := by
 obtain ⟨vs, t⟩ := h.tx i x T uv hx hT hu
 obtain ⟨g, cap, gv, cv, e1, e2, e3, e4, e5, e6, e7⟩ := t.upAt k u hl
 subst e1
 rw [hk] at t hu
 have x3 := t.c3
 have d0 : w.cell? ⟨g, k * 12, none⟩ = some (.int .i64 (u.lsn : Int)) := e7 0 (by omega)
 have hwk2 : IntKind.i64.wrap ((k : Int) + 1 - 1) = (k : Int) := by rw [IntKind.wrap_i64]; omega
 have hk1 : (0 : Int) < (k : Int) + 1 := by omega
 clear h hx hT hu t e7 e6 e5 e2 e3 e4 hl hk
 go_enter Tryz.func38, Tryz.ntmps38
 go_wp2
 go_ret
 exact ⟨rfl, rfl⟩
end
end Go.Proofs.YteeembildppgmaaGreat
namespace Go.Proofs.YteeembildppgmaaGreat
open Go.RowKit
set_option linter.unusedVariables false
set_option linter.unusedSimpArgs false
set_option maxHeartbeats 1000000 in
theorem isOf1_any (w : World) (bm bx x : Nat) (mark lsn txn id : Int) (v1 v3 v4 v5 v6 v7 v8 v9 v10 v11 y1 y2 y3 : Value) (hm : w.heap[bm]? = some (.cells #[.int .i64 mark] 3 (0, 0))) (hb : w.heap[bx]? = some (.cells #[.pointer (some ⟨x, 0, none⟩)] 72 (0, 0))) (hx : w.heap[x]? = some (.cells #[.int .i64 id, y1, y2, y3] 75 (0, 0))) :
 Calls Tryz.prog 66 #[.agg #[.int .i64 lsn, v1, .int .i64 txn, v3, v4, v5, v6, v7, v8, v9, v10, v11], .pointer (some ⟨bm, 0, none⟩), .pointer (some ⟨bx, 0, none⟩)] w fun e w' => e = .returned (.bool (decide (lsn = mark) && decide (txn = id))) ∧ Below w.heap.size w w' := by
 have hnew : ∀ o : Obj, (w.alloc o).heap[w.heap.size]? = some o := fun o => World.alloc_heap_new w o
 have hold : ∀ (o : Obj) (k : Nat) (z : Obj), w.heap[k]? = some z → (w.alloc o).heap[k]? = some z := fun o k z hz => (Below.heap_alloc _ _ _ (Array.getElem?_eq_some_iff.1 hz).1).trans hz
 have HB : Hid (∀ o : Obj, Below w.heap.size w (w.alloc o)) := fun o => ((Off.refl [] w).alloc _).below (Nat.le_refl _) (by simp)
 have HN := hide hnew
 have HO := hide hold
 have HM := hide (And.intro hm (And.intro hb hx))
 clear hnew hold hm hb hx
 go_enter Tryz.func66, Tryz.ntmps66
 go_upto_region 1 with fail
 generalize hW : w.alloc _ = W
 have m0 : W.cell? ⟨bm, 0, none⟩ = some (.int .i64 mark) := by rw [← hW, cell_of_row _ bm 0 _ _ _ (HO.out _ _ _ HM.out.1)]; rfl
 have b0 : W.cell? ⟨bx, 0, none⟩ = some (.pointer (some ⟨x, 0, none⟩)) := by rw [← hW, cell_of_row _ bx 0 _ _ _ (HO.out _ _ _ HM.out.2.1)]; rfl
 have x0 : W.cell? ⟨x, 0, none⟩ = some (.int .i64 id) := by rw [← hW, cell_of_row _ x 0 _ _ _ (HO.out _ _ _ HM.out.2.2)]; rfl
 have l0 : W.cell? ⟨w.heap.size, 0, none⟩ = some (.int .i64 lsn) := by rw [← hW, cell_of_row _ _ 0 _ _ _ (HN.out _)]; rfl
 have l2 : W.cell? ⟨w.heap.size, 2, none⟩ = some (.int .i64 txn) := by rw [← hW, cell_of_row _ _ 2 _ _ _ (HN.out _)]; rfl
 have HW : Hid (Below w.heap.size w W) := by show Below _ _ _; rw [← hW]; exact HB.out _
 clear hW
 generalize w.heap.size = q at l0 l2 ⊢
 by_cases h1 : lsn = mark
 · subst h1
   go_quiet (fail)
   go_wp2
   go_ret
   refine ⟨?_, HW.out.trans (below_drewN _ _ _)⟩
   rfl
 · have h2 : (lsn == mark) = false := by simp [h1]
   go_quiet (fail)
   go_wp2
   go_ret
   refine ⟨?_, HW.out.trans (below_drewN _ _ _)⟩
   rw [show decide (lsn = mark) = false by simp [h1], Bool.false_and]
   rfl
end Go.Proofs.YteeembildppgmaaGreat
