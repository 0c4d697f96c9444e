/- A part of it: SCommit SRoll. -/
import Derived.Test.YteeembildppgmaaGreatM25
namespace Go.Proofs.YteeembildppgmaaGreat
open Go.RowKit
set_option linter.unusedVariables false
set_option linter.unusedSimpArgs false
def bareRc (k : Int) : Enc.Rc := ⟨k, 0, 0, 0, 0, 0, [], [], [], [], 0⟩
theorem rec_bare (W : World) (k : Int) : Enc.RecVal W (.agg #[.int .i64 k, .int .i64 0, .int .i64 0, .int .i64 0, .int .i64 0, .int .i64 0, .slice none 0 0, .slice none 0 0, .slice none 0 0, .slice none 0 0, .int .i64 0]) (bareRc k) :=
  ⟨_, _, _, _, rfl, Enc.Row.nil W, Enc.Row.nil W, Enc.Row.nil W, Enc.Row.nil W⟩
theorem wf_bare (k : Int) (h0 : 0 ≤ k) (h1 : k ≤ 100) : (bareRc k).wf := ⟨fun y hy => by
    simp only [Enc.Rc.head, bareRc, List.mem_cons, List.not_mem_nil, or_false] at hy
    rcases hy with rfl | rfl | rfl | rfl | rfl | rfl <;> omega, by simp [bareRc], by simp [bareRc], by simp [bareRc]⟩
section
variable {w0 w w' : World} {s : Nat} {c : Cf} {xs tb : List Nat} {ov : Value} {ps : List Nat} {uvs : List Value} {S : St} {V : Nat → List UInt8}
theorem tellBare_ok (h : StIs w0 w s c xs tb ov ps uvs S) {i x : Nat} {T : Tn} {uv : Value} (hx : ps[i]? = some x) (hT : S.txs[i]? = some T) (hu : uvs[i]? = some uv) (k : Int) (h0 : 0 ≤ k) (h1 : k ≤ 100) (hroom : 96 ≤ S.R.room) (hid : T.id ≤ 1000000000000) (hla : T.last ≤ 4398046511104) :
    Calls Tryz.prog 40 #[.pointer (some ⟨s, 0, none⟩), .pointer (some ⟨x, 0, none⟩), .agg #[.int .i64 k, .int .i64 0, .int .i64 0, .int .i64 0, .int .i64 0, .int .i64 0, .slice none 0 0, .slice none 0 0, .slice none 0 0, .slice none 0 0, .int .i64 0]] w fun e w' => e = .returned (.int .i64 0) ∧
      StIs w0 w' s c xs tb ov ps uvs (S.told i T (bareRc k)) ∧ Kept xs w w' ∧ ∀ k ∈ tb, ¬ k = x → w'.heap[k]? = w.heap[k]? :=
  tellOf_ok h hx hT hu (rec_bare w k) (by show 96 + 0 + 0 + 24 * 0 + 16 * 0 ≤ _; omega) (wf_bare k h0 h1) (by show 96 + 0 + 0 + 24 * 0 + 16 * 0 ≤ _; omega) hid hla
/-- Nobody is open any more. -/
theorem StIs.emptied {g cap : Nat} {cur : Array Value} (h : StIs w0 w s c xs tb (.slice (some ⟨g, 0, none⟩) 1 cap) ps uvs S) (hO : Off [s, g] w w') (hr : w'.heap[s]? = some (.cells (stCells c { S with txs := [] } (.slice (some ⟨g, 0, none⟩) 0 cap)) 65 (0, 0)))
    (hg : w'.heap[g]? = some (.cells cur 72 (0, 0))) (hc : cur.size = cap) (hm : cap ≤ maxLen) : StIs w0 w' s c xs tb (.slice (some ⟨g, 0, none⟩) 0 cap) [] [] { S with txs := [] } :=
  have hgt : g ∈ tb := h.inO g rfl
  { pool := h.pool.writeL (fun k hk => by
      simp only [List.mem_cons, List.not_mem_nil, or_false] at hk
      rcases hk with e | e
      · rw [e]; exact ⟨by simp, h.s0⟩
      · rw [e]; exact ⟨by simp [hgt], h.t0 g hgt⟩) hO
    head := hr
    own := ⟨rfl, .inr ⟨g, cap, cur, rfl, Nat.zero_le _, hg, Nat.zero_le _, hm, by omega, by simp [ptrs]⟩⟩
    plen := rfl
    ulen := rfl
    tx := fun i x T uv a b d => by simp at a
    nodup := fun i j x a b => by simp at a
    udis := fun i j u v k a b d e => by simp at a
    s0 := h.s0
    t0 := h.t0
    sx := h.sx
    tbx := h.tbx
    inO := fun k hk => by injection hk with hk; rw [← hk]; exact hgt
    few := by show 0 ≤ 1000; omega
    lg2 := h.lg2
    n8 := h.n8 }
set_option maxHeartbeats 2000000 in
set_option maxRecDepth 100000 in
/-- The only transaction is closed. -/
theorem end_one (h : StIs w0 w s c xs tb ov ps uvs S) (h1 : S.txs.length = 1) {x : Nat} {T : Tn} {uv : Value} (hx : ps[0]? = some x) (hT : S.txs[0]? = some T) (hu : uvs[0]? = some uv) (hroom : 96 ≤ S.R.room) (hid : T.id ≤ 1000000000000) (hla : T.last ≤ 4398046511104) :
    Calls Tryz.prog 42 #[.pointer (some ⟨s, 0, none⟩), .pointer (some ⟨x, 0, none⟩)] w fun e w' => e = .returned (.int .i64 0) ∧
      StAt w0 w' s c xs { S.setR { S.R with held := S.R.held ++ ({ bareRc 6 with txn := (T.id : Int), prev := (T.last : Int) } : Enc.Rc).enc } with txs := [] } ∧ Kept xs w w' := by
  have hb1 : Below w.heap.size w (w.alloc (.cells #[.pointer (some ⟨x, 0, none⟩)] 72)) := (Below.refl _ w).alloc (Nat.le_refl _) _
  have hN1 : (w.alloc (.cells #[.pointer (some ⟨x, 0, none⟩)] 72)).heap[w.heap.size]? = some (.cells #[.pointer (some ⟨x, 0, none⟩)] 72 (0, 0)) := heap_alloc_new w _
  have hq := h.mindNew (w' := w.alloc (.cells #[.pointer (some ⟨x, 0, none⟩)] 72)) (ys := w.heap.size :: xs) hb1 (fun k hk => by
    simp only [List.mem_cons] at hk
    rcases hk with e | e
    · exact .inr ⟨by omega, by rw [e]; simp⟩
    · exact .inl e)
  have HTO := hide (tellBare_ok hq hx hT hu 6 (by omega) (by omega) hroom hid hla)
  have H := hide h
  have HX := hide hx
  have HT := hide hT
  have HU := hide hu
  have HB1 := hide hb1
  have HN1 := hide hN1
  have H1 := hide h1
  clear h hx hT hu hb1 hN1 hq h1
  go_enter Tryz.func42, Tryz.ntmps42
  go_wp2_with fail
  refine HTO.out.mono ?_
  rintro e W2 ⟨rfl, h2, hK2, hKt⟩
  clear HTO
  obtain ⟨N, hN⟩ : ∃ N, w.heap.size = N := ⟨_, rfl⟩
  rw [hN] at h2 hK2 HN1 HB1 ⊢
  have HNE := hide hN
  obtain ⟨g, y, uv', vs, cap, hov, hy, hu2, t2, hcell⟩ := h2.txAt 0 _ (by show (S.txs.set 0 _)[0]? = some _; exact List.getElem?_set_self (by rw [H1.out]; omega))
  rw [HX.out] at hy
  cases hy
  have hl2 : (S.told 0 T (bareRc 6)).txs.length = 1 := by show (S.txs.set 0 _).length = 1; rw [List.length_set]; exact H1.out
  rw [hl2] at hov
  subst hov
  obtain ⟨cur, hcur, hcsz, hcap1, hcap2⟩ : ∃ cur, W2.heap[g]? = some (.cells cur 72 (0, 0)) ∧ cur.size = cap ∧ 1 ≤ cap ∧ cap ≤ maxLen := by
    rcases h2.own.2 with ⟨e1, e2⟩ | ⟨g', cap', cur', e1, e0, e3, e4, e5, e6, e7⟩
    · cases e1
    · injection e1 with f1 f2 f3
      injection f1 with f1
      injection f1 with f1
      subst f1; subst f3
      exact ⟨cur', e3, by omega, by rw [hl2] at e4; omega, e5⟩
  have hN2 : W2.heap[N]? = some (.cells #[.pointer (some ⟨x, 0, none⟩)] 72 (0, 0)) := (hK2.2 N (by simp)).trans HN1.out
  have hB2 : W2.cell? ⟨N, 0, none⟩ = some (.pointer (some ⟨x, 0, none⟩)) := by rw [cell_of_row _ N 0 _ _ _ hN2]; rfl
  have hgs : ¬ g = s := fun e => h2.sx (by rw [← e]; simp [h2.inO g rfl])
  have HDO := hide (deleteOne W2 g cap x N hcell hB2 (frozen_of_row W2 g 0 _ _ hcur) hcap1 hcap2)
  have c4 := h2.c4
  obtain ⟨W3, hW3⟩ : ∃ W3, W2.setCell ⟨g, 0, none⟩ (.pointer none) = W3 := ⟨_, rfl⟩
  have o3 : ∀ q, ¬ q = g → W3.heap[q]? = W2.heap[q]? := fun q hq => by rw [← hW3]; exact heap_setCell_other W2 _ q _ hq
  have g3 : ∃ cur', W3.heap[g]? = some (.cells cur' 72 (0, 0)) ∧ cur'.size = cap := by
    rw [← hW3]
    exact ⟨_, heap_setCell_same W2 g 0 _ _ _ hcur, by simp [hcsz]⟩
  have s3 : W3.heap[s]? = some (.cells (stCells c (S.told 0 T (bareRc 6)) (.slice (some ⟨g, 0, none⟩) 1 cap)) 65 (0, 0)) := (o3 s (fun e => hgs e.symm)).trans h2.head
  have c43 : W3.cell? ⟨s, 4, none⟩ = some (.slice (some ⟨g, 0, none⟩) 1 cap) := by rw [cell_of_row _ s 4 _ _ _ s3]; rfl
  have f43 : W3.frozen? ⟨s, 4, none⟩ = false := frozen_of_row W3 s 4 _ _ s3
  have O3 : Off [s, g] W2 W3 := by rw [← hW3]; exact (Off.refl _ W2).setCell _ _ (.inl (by simp))
  rw [hW3] at HDO
  have H2 := hide h2
  have HK2 := hide hK2
  have HO3 := hide O3
  have HG3 := hide g3
  have HS3 := hide s3
  have HT2 := hide t2
  clear h2 hK2 hKt O3 g3 s3 t2 hW3 o3 hcell hN2 hcur hN hu2
  go_wp2_with (go_at_call 69; refine HDO.out.mono ?_; rintro e w' ⟨rfl, hw⟩; have hw := hw.symm; subst hw)
  go_ret
  obtain ⟨cur', hc1, hc2⟩ := HG3.out
  have hgt : g ∈ tb := H2.out.inO g rfl
  have O4 : Off [s, g] W2 (W3.setCell ⟨s, 4, none⟩ (.slice (some ⟨g, 0, none⟩) 0 cap)) := HO3.out.setCell _ _ (.inl (by simp))
  refine ⟨rfl, ?_, ?_⟩
  · have := H2.out.emptied O4 (by rw [heap_setCell_same W3 s 4 _ _ _ HS3.out]; rfl) ((heap_setCell_other W3 _ g _ hgs).trans hc1) hc2 hcap2
    exact (this.mind (ys := xs) (fun k hk => by simp [hk])).at
  · refine ⟨by rw [HNE.out]; exact Nat.le_trans (Nat.le_of_lt (by have := (Array.getElem?_eq_some_iff.1 HN1.out).1; exact Nat.lt_of_lt_of_le this HK2.out.1)) O4.size, fun k hk => (O4.block k (H2.out.lt (by simp [hk])) (by
      simp only [List.mem_cons, List.not_mem_nil, or_false]
      rintro (e | e)
      · exact H.out.sx (by rw [← e]; simp [hk])
      · exact H.out.tbx g hgt (by rw [← e]; exact hk))).trans ((HK2.out.2 k (by simp [hk])).trans (HB1.out.block k (by have := H.out.lt hk; have := HNE.out; omega)))⟩
theorem len_bare (k : Int) (a b : Int) : ({ bareRc k with txn := a, prev := b } : Enc.Rc).enc.length = 96 := by rw [Enc.length_enc]; rfl
theorem Rg.room_more (R : Rg) (l : List UInt8) : ({ R with held := R.held ++ l } : Rg).room = R.room - l.length := by
  show (R.start / 118 + R.n - 1) * 118 - (R.start + (R.held ++ l).length) = (R.start / 118 + R.n - 1) * 118 - (R.start + R.held.length) - l.length
  rw [List.length_append]
  omega
theorem Rg.tail_more (R : Rg) (l : List UInt8) : ({ R with held := R.held ++ l } : Rg).tail = R.tail + l.length := by
  show R.start + (R.held ++ l).length = R.start + R.held.length + l.length
  rw [List.length_append]
  omega
end
end Go.Proofs.YteeembildppgmaaGreat
namespace Go.Proofs.YteeembildppgmaaGreat
open Go.RowKit
set_option linter.unusedVariables false
set_option linter.unusedSimpArgs false
/-- One update undone, the record's LSN being t + 1. -/
def undoV (u : Up) (t : Nat) (V : Nat → List UInt8) : Nat → List UInt8 := fun q => if q = u.page then patch (patch (V u.page) 0 (be8 (t + 1))) (8 + u.off) u.after else V q
/-- Updates undone, newest first: the pages. -/
def rbV : List Up → Nat → (Nat → List UInt8) → Nat → List UInt8
  | [], _, V => V
  | u :: r, t, V => rbV r (t + u.sz) (undoV u t V)
/-- What is told meanwhile. -/
def rbH : List Up → Nat → Nat → Nat → List UInt8
  | [], _, _, _ => []
  | u :: r, id, t, last => ({ u.rc with txn := (id : Int), prev := (last : Int) } : Enc.Rc).enc ++ rbH r id (t + u.sz) (t + 1)
/-- And the LSN of the last record. -/
def rbL : List Up → Nat → Nat → Nat
  | [], _, last => last
  | u :: r, t, last => rbL r (t + u.sz) (t + 1)
def UpsOk (n : Nat) (us : List Up) : Prop := ∀ u ∈ us, u.page < n ∧ 1 ≤ u.after.length ∧ u.off + u.after.length ≤ 504 ∧ u.next ≤ 4398046511104
theorem len_up (u : Up) (a b : Int) : ({ u.rc with txn := a, prev := b } : Enc.Rc).enc.length = u.sz := by
  rw [Enc.length_enc]
  show 96 + 0 + u.after.length + 24 * 0 + 16 * 0 = 96 + u.after.length
  omega
theorem resU_snoc (us : List Up) (u : Up) : resU (us ++ [u]) = resU us + u.sz := by simp [resU]
section
variable {w0 w w' : World} {s : Nat} {c : Cf} {xs tb : List Nat} {ov : Value} {ps : List Nat} {uvs : List Value} {S : St} {V : Nat → List UInt8}
theorem StIs.tailLe (h : StIs w0 w s c xs tb ov ps uvs S) : S.R.tail ≤ 2199025255552 := by
  obtain ⟨bl, vs2, gp, D, hpx, hy⟩ := h.asRing
  have h1 := hy.rg.wf.start
  have h2 := hy.rg.wf.held
  show S.R.start + S.R.held.length ≤ _
  omega
/-- Where undoing stands: us is left; the goal is (VF, HF, LF, F). -/
structure Rb (w0 w wk : World) (s : Nat) (c : Cf) (xs : List Nat) (S : St) (x id : Nat) (VF : Nat → List UInt8) (HF : List UInt8) (LF W : Nat) (us : List Up) : Prop where
  is : ∃ (Sk : St) (Tk : Tn) (Vk : Nat → List UInt8) (tb : List Nat) (ov : Value) (ps : List Nat) (uvs : List Value) (uv : Value), StIs w0 wk s c xs tb ov ps uvs Sk ∧ Sk.txs = [Tk] ∧ ps[0]? = some x ∧ uvs[0]? = some uv ∧ Tk.ups = us ∧ Tk.id = id ∧ Tk.last ≤ 4398046511104 ∧ PInv c.n Sk.pool Vk ∧
    rbV us.reverse Sk.R.tail Vk = VF ∧ Sk.R.held ++ rbH us.reverse id Sk.R.tail Tk.last = HF ∧ rbL us.reverse Sk.R.tail Tk.last = LF ∧ Sk.pool.wr + 2 * us.length ≤ W ∧ Sk.pool.fs.length = S.pool.fs.length ∧ 96 + resU us ≤ Sk.R.room ∧
    (∃ f, Sk.R = { S.R with held := Sk.R.held, fin := f }) ∧ Sk = { S with pool := Sk.pool, txs := Sk.txs }
  ok : UpsOk c.n us
  kept : Kept xs w wk
  few : us.length ≤ 1000000000
theorem Rb.step {wk : World} {x id LF W : Nat} {VF : Nat → List UInt8} {HF : List UInt8} {us : List Up} {u : Up} (r : Rb w0 w wk s c xs S x id VF HF LF W (us ++ [u])) (hW : W ≤ 1000000) (hid : id ≤ 1000000000000) :
    Calls Tryz.prog 39 #[.pointer (some ⟨s, 0, none⟩), .pointer (some ⟨x, 0, none⟩)] wk fun e w' => e = .returned (.int .i64 0) ∧ Rb w0 w w' s c xs S x id VF HF LF W us := by
  obtain ⟨⟨Sk, Tk, Vk, tb, ov, ps, uvs, uv, h, htx, hx, hu, hups, hTid, hla, hi, hV, hH, hL, hwr, hfs, hroom, hR, hS⟩, ok, kept, few⟩ := r
  have hT : Sk.txs[0]? = some Tk := by rw [htx]; rfl
  obtain ⟨o1, o2, o3, o4⟩ := ok u (by simp)
  have hlen : (us ++ [u]).length = us.length + 1 := by simp
  rw [hlen] at hwr few
  have hsz : u.sz = 96 + u.after.length := rfl
  rw [resU_snoc] at hroom
  refine (undoNewest_ok h hx hT hu us.length u (by rw [hups]; exact hlen) (by rw [hups]; simp) hi (by omega) o1 o2 o3 (by omega) (by omega) hla o4 (by omega)).mono ?_
  rintro e w' ⟨rfl, pl, uvs', h', hi', hr', hw', hf', hk'⟩
  have hlu : uvs'[0]? = some (uvs'[0]?.getD default) := by
    have h1 := h'.ulen
    have h2 : uvs'.length = 1 := by rw [h1]; show (Sk.txs.set 0 _).length = 1; rw [List.length_set, htx]; rfl
    rw [List.getElem?_eq_getElem (by omega)]
    rfl
  obtain ⟨f, hf⟩ := hr'
  have hpr : pl.fo.1 = { Sk.R with held := Sk.R.held ++ ({ u.rc with txn := (Tk.id : Int), prev := (Tk.last : Int) } : Enc.Rc).enc, fin := f } := by rw [hf]
  have htl := h.tailLe
  have eR : (St.R { Sk with pool := pl, txs := Sk.txs.set 0 { Tk with last := Sk.R.tail + 1, ups := Tk.ups.take us.length } }) = pl.fo.1 := rfl
  have eT : pl.fo.1.tail = Sk.R.tail + u.sz := by
    rw [hpr]
    show Sk.R.start + (Sk.R.held ++ _).length = Sk.R.start + Sk.R.held.length + u.sz
    rw [List.length_append, len_up]
    omega
  have eM : pl.fo.1.room = Sk.R.room - u.sz := by
    rw [hpr]
    have := Rg.room_more Sk.R ({ u.rc with txn := (Tk.id : Int), prev := (Tk.last : Int) } : Enc.Rc).enc
    rw [len_up] at this
    exact this
  refine ⟨rfl, ⟨_, { Tk with last := Sk.R.tail + 1, ups := Tk.ups.take us.length }, _, tb, ov, ps, uvs', _, h', by show Sk.txs.set 0 _ = _; rw [htx]; rfl, hx, hlu, by show Tk.ups.take us.length = us; rw [hups]; simp, hTid, by show Sk.R.tail + 1 ≤ _; omega, hi', ?_, ?_, ?_, by show pl.wr + _ ≤ W; omega, by show pl.fs.length = _; rw [hf', hfs], by rw [eR, eM]; omega, ?_, ?_⟩, fun v hv => ok v (by simp [hv]), kept.trans hk', by omega⟩
  · rw [← hV, eR, eT]
    simp only [List.reverse_append, List.reverse_cons, List.reverse_nil, List.nil_append, List.singleton_append]
    rfl
  · rw [← hH, eR, eT]
    simp only [List.reverse_append, List.reverse_cons, List.reverse_nil, List.nil_append, List.singleton_append]
    rw [hpr]
    show (Sk.R.held ++ _) ++ rbH us.reverse id _ (Sk.R.tail + 1) = Sk.R.held ++ (_ ++ rbH us.reverse id _ (Sk.R.tail + 1))
    rw [List.append_assoc, hTid]
  · rw [← hL, eR, eT]
    simp only [List.reverse_append, List.reverse_cons, List.reverse_nil, List.nil_append, List.singleton_append]
    rfl
  · obtain ⟨f0, hf0⟩ := hR
    refine ⟨f, ?_⟩
    rw [eR, hpr, hf0]
  · rw [hS]
theorem Rb.c3 {wk : World} {x id LF W : Nat} {VF : Nat → List UInt8} {HF : List UInt8} {us : List Up} (r : Rb w0 w wk s c xs S x id VF HF LF W us) : ∃ ao cc, wk.cell? ⟨x, 3, none⟩ = some (.slice ao us.length cc) := by
  obtain ⟨⟨Sk, Tk, Vk, tb, ov, ps, uvs, uv, h, htx, hx, hu, hups, hTid, hla, hi, hV, hH, hL, hwr, hfs, hroom, hR, hS⟩, ok, kept, few⟩ := r
  obtain ⟨vs, t⟩ := h.tx 0 x Tk uv hx (by rw [htx]; rfl) hu
  obtain ⟨ao, cc, e⟩ := t.uvlen
  exact ⟨ao, cc, by rw [t.c3, e, hups]⟩
theorem Rb.fin {wk : World} {x id LF W : Nat} {VF : Nat → List UInt8} {HF : List UInt8} (r : Rb w0 w wk s c xs S x id VF HF LF W []) (hid : id ≤ 1000000000000) :
    Calls Tryz.prog 42 #[.pointer (some ⟨s, 0, none⟩), .pointer (some ⟨x, 0, none⟩)] wk fun e w' => e = .returned (.int .i64 0) ∧ ∃ pl, StAt w0 w' s c xs { S with pool := pl, txs := [] } ∧ PInv c.n pl VF ∧ pl.wr ≤ W ∧ pl.fs.length = S.pool.fs.length ∧
      RS { S.R with held := HF ++ ({ bareRc 6 with txn := (id : Int), prev := (LF : Int) } : Enc.Rc).enc } pl.fo.1 ∧ Kept xs w w' := by
  obtain ⟨⟨Sk, Tk, Vk, tb, ov, ps, uvs, uv, h, htx, hx, hu, hups, hTid, hla, hi, hV, hH, hL, hwr, hfs, hroom, hR, hS⟩, ok, kept, few⟩ := r
  have hT : Sk.txs[0]? = some Tk := by rw [htx]; rfl
  refine (end_one h (by rw [htx]; rfl) hx hT hu (by omega) (by omega) hla).mono ?_
  rintro e w' ⟨rfl, h', hk'⟩
  obtain ⟨f, hf⟩ := hR
  refine ⟨rfl, { Sk.pool with fo := ({ Sk.R with held := Sk.R.held ++ ({ bareRc 6 with txn := (Tk.id : Int), prev := (Tk.last : Int) } : Enc.Rc).enc }, Sk.pool.fo.2) }, ?_, ?_, ?_, ?_, ?_, kept.trans hk'⟩
  rotate_left
  · rw [← hV]
    exact hi.setR { Sk.R with held := Sk.R.held ++ ({ bareRc 6 with txn := (Tk.id : Int), prev := (Tk.last : Int) } : Enc.Rc).enc }
  · show Sk.pool.wr ≤ W
    omega
  · exact hfs
  · have e1 : Sk.R.held = HF := by rw [← hH]; simp [rbH]
    have e2 : Tk.last = LF := hL
    refine ⟨f, ?_⟩
    show ({ Sk.R with held := Sk.R.held ++ ({ bareRc 6 with txn := (Tk.id : Int), prev := (Tk.last : Int) } : Enc.Rc).enc } : Rg) = _
    rw [e1, e2, hTid]
    rw [hf]
  · have e3 : ({ Sk.setR { Sk.R with held := Sk.R.held ++ ({ bareRc 6 with txn := (Tk.id : Int), prev := (Tk.last : Int) } : Enc.Rc).enc } with txs := [] } : St) = { S with pool := { Sk.pool with fo := ({ Sk.R with held := Sk.R.held ++ ({ bareRc 6 with txn := (Tk.id : Int), prev := (Tk.last : Int) } : Enc.Rc).enc }, Sk.pool.fo.2) }, txs := [] } := by
      rw [hS]
      rfl
    rw [e3] at h'
    exact h'
/-- How many updates a transaction has in memory. -/
def upsIn (x : Nat) (w : World) : Nat := match w.cell? ⟨x, 3, none⟩ with
  | some (.slice _ n _) => n
  | _ => 0
theorem Rb.upsIn {wk : World} {x id LF W : Nat} {VF : Nat → List UInt8} {HF : List UInt8} {us : List Up} (r : Rb w0 w wk s c xs S x id VF HF LF W us) : YteeembildppgmaaGreat.upsIn x wk = us.length := by
  obtain ⟨ao, cc, h⟩ := r.c3
  unfold YteeembildppgmaaGreat.upsIn
  rw [h]
set_option maxHeartbeats 2000000 in
set_option maxRecDepth 100000 in
/-- The only transaction is rolled back. -/
theorem rollback_one (h : StIs w0 w s c xs tb ov ps uvs S) {T : Tn} (h1 : S.txs = [T]) (hi : PInv c.n S.pool V) (hok : UpsOk c.n T.ups) (hroom : 192 + resU T.ups ≤ S.R.room) (hid : T.id ≤ 1000000000000) (hla : T.last ≤ 4398046511104) (hwr : S.pool.wr + 2 * T.ups.length ≤ 1000000) (n : Int) (hn : n = (T.id : Int)) :
    Calls Tryz.prog 26 #[.pointer (some ⟨s, 0, none⟩), .int .i64 n] w fun e w' => e = .returned (.int .i64 0) ∧ ∃ pl, StAt w0 w' s c xs { S with pool := pl, txs := [] } ∧ PInv c.n pl (rbV T.ups.reverse (S.R.tail + 96) V) ∧ pl.wr ≤ S.pool.wr + 2 * T.ups.length ∧ pl.fs.length = S.pool.fs.length ∧
      RS { S.R with held := S.R.held ++ ({ bareRc 5 with txn := (T.id : Int), prev := (T.last : Int) } : Enc.Rc).enc ++ rbH T.ups.reverse T.id (S.R.tail + 96) (S.R.tail + 1) ++ ({ bareRc 6 with txn := (T.id : Int), prev := ((rbL T.ups.reverse (S.R.tail + 96) (S.R.tail + 1) : Nat) : Int) } : Enc.Rc).enc } pl.fo.1 ∧ Kept xs w w' := by
  have hT : S.txs[0]? = some T := by rw [h1]; rfl
  obtain ⟨g, x, uv, vs, cc, hov, hx, hu, t, hcell⟩ := h.txAt 0 T hT
  have HF := hide (sfind_ok h hx hT (fun j U hj => by omega) n hn)
  have HTO := hide (tellBare_ok h hx hT hu 5 (by omega) (by omega) (by omega) hid hla)
  have htl := h.tailLe
  have hlen := length_resU T.ups
  have hfew : T.ups.length ≤ 1000000000 := by omega
  obtain ⟨VF, hVF⟩ : ∃ VF, rbV T.ups.reverse (S.R.tail + 96) V = VF := ⟨_, rfl⟩
  obtain ⟨HH, hHH⟩ : ∃ HH, S.R.held ++ ({ bareRc 5 with txn := (T.id : Int), prev := (T.last : Int) } : Enc.Rc).enc ++ rbH T.ups.reverse T.id (S.R.tail + 96) (S.R.tail + 1) = HH := ⟨_, rfl⟩
  obtain ⟨LF, hLF⟩ : ∃ LF, rbL T.ups.reverse (S.R.tail + 96) (S.R.tail + 1) = LF := ⟨_, rfl⟩
  rw [hVF, hHH, hLF]
  have HR1 : Hid (∀ W2, StIs w0 W2 s c xs tb ov ps uvs (S.told 0 T (bareRc 5)) → Kept xs w W2 → Rb w0 w W2 s c xs S x T.id VF HH LF (S.pool.wr + 2 * T.ups.length) T.ups) := fun W2 h2 hK2 => by
    have eT : (S.told 0 T (bareRc 5)).R.tail = S.R.tail + 96 := by
      show Rg.tail { S.R with held := S.R.held ++ _ } = _
      rw [Rg.tail_more, len_bare]
    refine ⟨⟨_, { T with last := S.R.tail + 1 }, V, tb, ov, ps, uvs, uv, h2, by show S.txs.set 0 _ = _; rw [h1]; rfl, hx, hu, rfl, rfl, by show S.R.tail + 1 ≤ _; omega, hi.setR { S.R with held := S.R.held ++ ({ bareRc 5 with txn := (T.id : Int), prev := (T.last : Int) } : Enc.Rc).enc }, by rw [eT]; exact hVF, by rw [eT]; exact hHH, by rw [eT]; exact hLF, Nat.le_refl _, rfl, ?_, ⟨S.R.fin, rfl⟩, rfl⟩, hok, hK2, hfew⟩
    show _ ≤ Rg.room { S.R with held := S.R.held ++ _ }
    rw [Rg.room_more, len_bare]
    omega
  have hW : S.pool.wr + 2 * T.ups.length ≤ 1000000 := hwr
  clear h hx hT hu hroom hcell t hov hn hi hok hVF hHH hLF hla h1 hlen hwr htl
  go_enter Tryz.func26, Tryz.ntmps26
  go_wp2
  refine wp_scope_two 0 1 (fun a' w' => ∃ (us : List Up) (u6 u7 u8 u9 u10 u11 u12 u13 u14 u15 u16 u17 u18 u19 u20 u21 u22 u23 u24 u25 u26 u27 u28 u29 u30 u31 u32 u33 u34 u35 u36 u37 : Value), a' = { tmps := #[.pointer (some ⟨s, 0, none⟩), .int .i64 n, undef, undef, .int .i64 0, .pointer (some ⟨x, 0, none⟩), u6, u7, u8, u9, u10, u11, u12, u13, u14, u15, u16, u17, u18, u19, u20, u21, u22, u23, u24, u25, u26, u27, u28, u29, u30, u31, u32, u33, u34, u35, u36, u37], defers := [] } ∧ Rb w0 w w' s c xs S x T.id VF HH LF (S.pool.wr + 2 * T.ups.length) us) (fun a' w' => ∃ (u6 u7 u8 u9 u10 u11 u12 u13 u14 u15 u16 u17 u18 u19 u20 u21 u22 u23 u24 u25 u26 u27 u28 u29 u30 u31 u32 u33 u34 u35 u36 u37 : Value), a' = { tmps := #[.pointer (some ⟨s, 0, none⟩), .int .i64 n, undef, undef, .int .i64 0, .pointer (some ⟨x, 0, none⟩), u6, u7, u8, u9, u10, u11, u12, u13, u14, u15, u16, u17, u18, u19, u20, u21, u22, u23, u24, u25, u26, u27, u28, u29, u30, u31, u32, u33, u34, u35, u36, u37], defers := [] } ∧ Rb w0 w w' s c xs S x T.id VF HH LF (S.pool.wr + 2 * T.ups.length) []) (fun _ w' => upsIn x w') rfl rfl ?_ ?_ ?_
  · go_wp2_with (first
      | (go_at_call 31; refine HF.out.mono ?_; rintro e w' ⟨rfl, hw⟩; have hw := hw.symm; subst hw)
      | (go_at_call 40; refine HTO.out.mono ?_; rintro e W2 ⟨rfl, h2, hK2, -⟩; have HR2 := hide (HR1.out W2 h2 hK2); clear h2 hK2))
    go_step3
    exact .inl ⟨rfl, _, _, _, _, _, _, _, _, _, _, _, _, _, _, _, _, _, _, _, _, _, _, _, _, _, _, _, _, _, _, _, _, _, rfl, HR2.out⟩
  · rintro a' wk ⟨us, u6, u7, u8, u9, u10, u11, u12, u13, u14, u15, u16, u17, u18, u19, u20, u21, u22, u23, u24, u25, u26, u27, u28, u29, u30, u31, u32, u33, u34, u35, u36, u37, rfl, hr⟩
    obtain ⟨ao, cc', x3⟩ := hr.c3
    have hfew2 := hr.few
    rcases List.eq_nil_or_concat us with rfl | ⟨vs', u, rfl⟩
    · have HR := hide hr
      clear hr
      go_wp2
      go_step3
      exact .inr ⟨rfl, _, _, _, _, _, _, _, _, _, _, _, _, _, _, _, _, _, _, _, _, _, _, _, _, _, _, _, _, _, _, _, _, rfl, HR.out⟩
    · have hlen2 : (vs'.concat u).length = vs'.length + 1 := by simp
      rw [hlen2] at x3 hfew2
      have hz : (((vs'.length + 1 : Nat) : Int) == 0) = false := by simp; omega
      have hr' : Rb w0 w wk s c xs S x T.id VF HH LF (S.pool.wr + 2 * T.ups.length) (vs' ++ [u]) := by rw [← List.concat_eq_append]; exact hr
      have HST := hide (hr'.step hW hid)
      have HMU : Hid (upsIn x wk = vs'.length + 1) := by show _ = _; rw [hr.upsIn, hlen2]
      clear hr hr'
      go_wp2_with (go_at_call 39; refine HST.out.mono ?_; rintro e W3 ⟨rfl, h3⟩; have H3 := hide h3; clear h3)
      go_step3
      exact .inl ⟨rfl, ⟨_, _, _, _, _, _, _, _, _, _, _, _, _, _, _, _, _, _, _, _, _, _, _, _, _, _, _, _, _, _, _, _, _, rfl, H3.out⟩, by rw [HMU.out, H3.out.upsIn]; omega⟩
  · rintro a' wk ⟨u6, u7, u8, u9, u10, u11, u12, u13, u14, u15, u16, u17, u18, u19, u20, u21, u22, u23, u24, u25, u26, u27, u28, u29, u30, u31, u32, u33, u34, u35, u36, u37, rfl, hr⟩
    have HFI := hide (hr.fin hid)
    clear hr
    go_wp2_with (go_at_call 42; refine HFI.out.mono ?_; rintro e W3 ⟨rfl, h3⟩; have H3 := hide h3; clear h3)
    rw [Exit.noGoto_ret]
    go_ret
    exact ⟨rfl, H3.out⟩
end
end Go.Proofs.YteeembildppgmaaGreat
