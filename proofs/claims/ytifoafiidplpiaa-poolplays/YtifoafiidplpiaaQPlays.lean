/- PoolPlays: the walk. -/
import Derived.Test.YtifoafiidplpiaaQAt
namespace Go.Proofs.Ytifoafiidplpiaa
open Go.RowKit
set_option linter.unusedVariables false
set_option linter.unusedSimpArgs false

theorem Try.size36n : (Try.prog.info? 36).map (·.size) = some 4 := by kernel_rfl
theorem step_call4_to {P : Program} {ops : Array Oper} {Q : Exit → Act → World → Prop} {md : Region.Mode} {S : World → Prop} {o : Oper} {fuel : Nat} {listed : Array Bool} {a : Act} {w : World} {R : Ending → World → Prop} (j dst f : Nat) (hj : ops[j]? = some o)
    (hr : Region.ready md ops listed = [j]) (hd : o.dst = some dst) (hw : Region.wanted o (yielded ops a.tmps) = true) (x y z u : Operand) (ts : Array TypeId) (hop : o.op = Op.call { callee := Callee.value (Operand.func f), args := #[x, y, z, u], argTypes := ts })
    (vx vy vz vu : Value) (hx : a.eval x = vx) (hy : a.eval y = vy) (hz : a.eval z = vz) (hu : a.eval u = vu) (hcf : ∀ args w, (callFunc f args).run P w = .ok (.enter f args) w) (hc : Calls P f #[vx, vy, vz, vu] w R)
    (hK : ∀ e w', R e w' → ∃ v, e = .returned v ∧ S w' ∧ wpAnyH P md ops Q S fuel (listed.setIfInBounds j true) (a.put (some dst) v) w') : wpAnyH P md ops Q S (fuel + 1) listed a w := by
  refine step_by j hj hr (fun K hK' => ?_)
  rw [if_pos hw]
  have hrun : (execOp a.eval o).run P w = .ok (.enter f #[vx, vy, vz, vu]) w := by
    have hff : a.eval (.func f) = .func (.func f) #[] #[] := rfl
    unfold execOp
    simp [hop, resolve, hff, Deferred.ofValue, invoke, hx, hy, hz, hu]
    exact hcf _ _
  unfold Oper.wp
  rw [hrun, Oper.upon_enter]
  refine hc.mono ?_
  intro e w' hR
  obtain ⟨v, rfl, hS, hW⟩ := hK e w' hR
  show K (a.put o.dst v) w'
  rw [hd]
  exact hK' _ _ hS hW
theorem Try.enters13 (args : Array Value) (w : World) : (callFunc 13 args).run Try.prog w = .ok (.enter 13 args) w := by kernel_rfl
theorem Try.enters21 (args : Array Value) (w : World) : (callFunc 21 args).run Try.prog w = .ok (.enter 21 args) w := by kernel_rfl
theorem Try.enters10 (args : Array Value) (w : World) : (callFunc 10 args).run Try.prog w = .ok (.enter 10 args) w := by kernel_rfl
theorem Try.enters22 (args : Array Value) (w : World) : (callFunc 22 args).run Try.prog w = .ok (.enter 22 args) w := by kernel_rfl
theorem Try.enters14 (args : Array Value) (w : World) : (callFunc 14 args).run Try.prog w = .ok (.enter 14 args) w := by kernel_rfl
theorem Try.enters24 (args : Array Value) (w : World) : (callFunc 24 args).run Try.prog w = .ok (.enter 24 args) w := by kernel_rfl
theorem Try.enters23 (args : Array Value) (w : World) : (callFunc 23 args).run Try.prog w = .ok (.enter 23 args) w := by kernel_rfl
theorem run_index49 (w : World) (g n cap i : Nat) (h : i < n) : (Instr.indexAt 49 (.slice (some ⟨g, 0, none⟩) n cap) (.int .i64 (i : Int))).run Try.prog w = .ok (.pointer (some ⟨g, i, none⟩)) w := by
  have hu := Try.underlying49
  have hs := Try.sizeOf3
  simp [go_sem, hu, hs, h]
/-- Is page n in one of the first i frames, as the law looks for it? -/
def hasU (fs : List Fm) (n : Int) (i : Nat) : Bool := decide (0 ≤ n) && (fs.take i).any (fun f => pageNo f == n)
theorem hasU_succ (fs : List Fm) (n : Int) (i : Nat) (f : Fm) (hf : fs[i]? = some f) : hasU fs n (i + 1) = (hasU fs n i || (decide (0 ≤ n) && (pageNo f == n))) := by
  obtain ⟨hlt, rfl⟩ := List.getElem?_eq_some_iff.1 hf
  unfold hasU
  rw [List.take_succ_eq_append_getElem hlt, List.any_append]
  cases decide (0 ≤ n) <;> simp
theorem find_any_eq (S : Pl (List Int)) (n : Int) (h : PInv S) : hasU S.fs n S.fs.length = (S.find n).isSome := by
  unfold hasU
  rw [List.take_length]
  by_cases h0 : 0 ≤ n
  · rw [← rfind_eq S n h0]
    unfold Pl.rfind
    rw [List.findIdx?_isSome]
    simp [h0]
  · rw [none_nob (h.1.out n (by omega))]
    simp [h0]
theorem Fs.rebase {v w0 w : World} {q p fr n : Nat} {failed : Bool} {xs : List Nat} {D : Dv} (h : Fs w0 w q p fr n failed xs D) (hb : Below v.heap.size v w0) : Fs v w q p fr n failed xs D := by
  obtain ⟨fp, x⟩ := h
  have hs := hb.size
  exact ⟨fp, x.fl, ⟨x.dv.dev, fun k hk => Nat.le_trans hs (x.dv.f0 k hk), x.dv.xs, hb.trans (x.dv.below.mono hs)⟩, x.nq, Nat.le_trans hs x.q0, x.qx⟩
theorem PoolAt.cb {gf gb : Nat} {bad : Int} {w0 w : World} {P G q p n : Nat} {xs : List Nat} {S : Pl (List Int)} (h : PoolAt (Force.plays gf gb bad) w0 w P G q p n xs S) : w.cell? ⟨gb, 0, none⟩ = some (.int .i64 bad) := by
  obtain ⟨bl, ff, vs, D, a⟩ := h
  obtain ⟨v, _, v1, v2, v3, _⟩ := (show PlaysHeld gf gb bad w ff S.fo from a.fo)
  rw [cell_of_row w gb 0 _ _ _ v2]
  rfl
theorem pq_new {w0 w : World} {q p gf gb : Nat} {bad : Int} {D : Dv} (m : Nat) (h1 : 1 ≤ m) (h2 : m ≤ 64) (hF : Fs w0 w q p 0 6 false [gf, gb] D) (hw : D.well) (hn : D.W = []) (hl : 29 ≤ D.L.length) (hd : ∀ i, i < 6 → pageL D.L (0 + 5 + 4 * i) = (List.replicate 6 (zerosN 512)).getD i [])
    (hg : w.heap[gf]? = some (.cells #[.slice none 0 0] 49 (0, 0))) (hb : w.heap[gb]? = some (.cells #[.int .i64 bad] 3 (0, 0))) (hne : gf ≠ gb) (hg0 : w0.heap.size ≤ gf) (hb0 : w0.heap.size ≤ gb) :
    Calls Try.prog 8 #[.pointer (some ⟨q, 0, none⟩), .int .i64 (m : Int), .func (.func 17) #[] #[.pointer (some ⟨gf, 0, none⟩), .pointer (some ⟨gb, 0, none⟩)]] w fun e w' => ∃ P G, e = .returned (.tuple #[.pointer (some ⟨P, 0, none⟩), .int .i64 0]) ∧ PoolAt (Force.plays gf gb bad) w0 w' P G q p 6 [] (Pl.made m (List.replicate 6 (zerosN 512)) ([] : List Int)) ∧ Below w.heap.size w w' :=
  newp_ok (Φ := Force.plays gf gb bad) (ff := [gf, gb]) (xs := []) m h1 h2 hF hw hn hl (List.replicate 6 (zerosN 512)) hd (by simp) (disk_len 6) ([] : List Int) ⟨.slice none 0 0, rfl, hg, hb, World.ownsRow_nil _ _ _ _, by simp [Value.ownBlock], by simp [Value.ownBlock], hne⟩
    (fun k hk => by
      simp at hk
      rcases hk with rfl | rfl
      · exact hg0
      · exact hb0) (fun k hk => by simp)

set_option maxHeartbeats 8000000 in
set_option maxRecDepth 100000 in
theorem plays_bad (m0 bad : Int) (hm0 : m0 < 1 ∨ 64 < m0) (a0 : Option Addr) (len0 cap0 : Nat) (w : World) (hl0 : len0 ≤ 9223372036854775807) :
    Calls Try.prog 4 #[.int .i64 m0, .int .i64 bad, .slice a0 len0 cap0] w fun e w' => e = .returned (.bool true) ∧ Below w.heap.size w w' := by
  have hmd := mend_idle (D := Dv.fresh 40) rfl rfl 0 6 (fresh_head 40 0 (by omega))
  have HB0 : Hid (Below w.heap.size w (w.alloc (.cells #[.int .i64 bad] 3))) := (Below.refl _ _).alloc (Nat.le_refl _) _
  have HG0 : Hid ((w.alloc (.cells #[.int .i64 bad] 3)).heap[w.heap.size]? = some (.cells #[.int .i64 bad] 3 (0, 0))) := heap_alloc_new _ _
  have HZ0 : Hid ((w.alloc (.cells #[.int .i64 bad] 3)).heap.size = w.heap.size + 1) := by show _ = _; simp
  go_enter Try.func4, Try.ntmps4
  go_wp2_with fail
  refine (b_new 40 _ (by omega) (by omega)).mono ?_
  rintro e w1 ⟨p, rfl, hD1⟩
  have HOP := hide (b_openOk 0 6 hD1 (by omega) (by simp [Dv.fresh]) (by simp [Dv.fresh]) hmd)
  clear hD1 hmd
  go_wp2_with fail
  refine HOP.out.mono ?_
  rintro e w2 ⟨q, rfl, hF2, _⟩
  have HB2 := hide (HB0.out.trans (hF2.below.mono HB0.out.size))
  have hgb2 := (hF2.below.block w.heap.size (by rw [HZ0.out]; omega)).trans HG0.out
  have hlb : w.heap.size < w2.heap.size := (Array.getElem?_eq_some_iff.1 hgb2).1
  obtain ⟨gb, hgb⟩ : ∃ gb, w.heap.size = gb := ⟨_, rfl⟩
  have HGB := hide hgb
  rw [hgb] at hgb2 hlb ⊢
  clear HOP hF2 HG0 HZ0 HB0 hgb
  have HB3 : Hid (Below w2.heap.size w2 (w2.alloc (.cells #[.slice none 0 0] 49))) := (Below.refl _ _).alloc (Nat.le_refl _) _
  have cb : (w2.alloc (.cells #[.slice none 0 0] 49)).cell? ⟨gb, 0, none⟩ = some (.int .i64 bad) := by rw [cell_of_row _ gb 0 _ _ _ ((HB3.out.block gb hlb).trans hgb2)]; rfl
  have cf : (w2.alloc (.cells #[.slice none 0 0] 49)).cell? ⟨w2.heap.size, 0, none⟩ = some (.slice none 0 0) := by rw [cell_of_row _ w2.heap.size 0 _ _ _ (heap_alloc_new w2 (.cells #[.slice none 0 0] 49))]; rfl
  clear hgb2 hlb
  go_wp2_with fail
  refine (newp_bad q 17 _ m0 hm0 _).mono ?_
  rintro e w3 ⟨rfl, hw3⟩
  have hw3 := hw3.symm
  subst hw3
  obtain ⟨gf, hgf⟩ : ∃ gf, w2.heap.size = gf := ⟨_, rfl⟩
  have HB4 := hide (HB2.out.trans (HB3.out.mono HB2.out.size))
  rw [hgf] at cf ⊢
  generalize w2.alloc (.cells #[.slice none 0 0] 49) = W at *
  clear HB2 HB3 hgf
  go_wp2_with fail
  refine (rnew_bad 6 bad 60 m0 hm0 W).mono ?_
  rintro e w4 ⟨rfl, hw4⟩
  have hw4 := hw4.symm
  subst hw4
  clear hm0
  go_wp2_with fail
  refine (awake_any W).mono ?_
  rintro e w5 ⟨rfl, hb5⟩
  have cf5 : w5.cell? ⟨gf, 0, none⟩ = some (.slice none 0 0) := (hb5.cell (p := ⟨gf, 0, none⟩) (World.block_lt_of_cell? W _ cf)).trans cf
  have HB5 := hide (HB4.out.trans (hb5.mono HB4.out.size))
  clear hb5 cf cb HB4
  by_cases hl : 0 < len0
  · go_wp2_with fail
    go_loopw [16] (fun a wr => a = .int .i64 0 ∧ wr = w5) (fun a _ => 1)
    case atStart => exact ⟨rfl, rfl⟩
    case round =>
      obtain ⟨rfl, hw⟩ := hrel
      have hw := hw.symm
      subst hw
      go_wp2_with fail
      go_loopw [29] (fun a wr => a = .int .i64 0 ∧ wr = w5) (fun a _ => 1)
      case atStart => exact ⟨rfl, rfl⟩
      case round =>
        obtain ⟨rfl, hw⟩ := hrel
        have hw := hw.symm
        subst hw
        go_wp2_with fail
        go_ret
        first | exact ⟨rfl, HB5.out⟩ | exact ⟨rfl, by rw [← HGB.out]; exact HB5.out⟩
  · have hl' : len0 = 0 := by omega
    subst hl'
    go_wp2_with fail
    go_loopw [16] (fun a wr => a = .int .i64 0 ∧ wr = w5) (fun a _ => 1)
    case atStart => exact ⟨rfl, rfl⟩
    case round =>
      obtain ⟨rfl, hw⟩ := hrel
      have hw := hw.symm
      subst hw
      go_wp2_with fail
      go_loopw [29] (fun a wr => a = .int .i64 0 ∧ wr = w5) (fun a _ => 1)
      case atStart => exact ⟨rfl, rfl⟩
      case round =>
        obtain ⟨rfl, hw⟩ := hrel
        have hw := hw.symm
        subst hw
        go_wp2_with fail
        go_ret
        first | exact ⟨rfl, HB5.out⟩ | exact ⟨rfl, by rw [← HGB.out]; exact HB5.out⟩

set_option maxHeartbeats 8000000 in
set_option maxRecDepth 100000 in
theorem plays_good (m0 : Nat) (bad : Int) (h1 : 1 ≤ m0) (h2 : m0 ≤ 64) (a0 : Option Addr) (len0 cap0 : Nat) (w : World) (hops : IsOps w a0 len0) :
    Calls Try.prog 4 #[.int .i64 (m0 : Int), .int .i64 bad, .slice a0 len0 cap0] w fun e w' => e = .returned (.bool true) ∧ Below w.heap.size w w' := by
  have W0 := hide hops
  have hl0 := hops.1
  clear hops
  have hmd := mend_idle (D := Dv.fresh 40) rfl rfl 0 6 (fresh_head 40 0 (by omega))
  have HB0 : Hid (Below w.heap.size w (w.alloc (.cells #[.int .i64 bad] 3))) := (Below.refl _ _).alloc (Nat.le_refl _) _
  have HG0 : Hid ((w.alloc (.cells #[.int .i64 bad] 3)).heap[w.heap.size]? = some (.cells #[.int .i64 bad] 3 (0, 0))) := heap_alloc_new _ _
  have HZ0 : Hid ((w.alloc (.cells #[.int .i64 bad] 3)).heap.size = w.heap.size + 1) := by show _ = _; simp
  go_enter Try.func4, Try.ntmps4
  go_wp2_with fail
  refine (b_new 40 _ (by omega) (by omega)).mono ?_
  rintro e w1 ⟨p, rfl, hD1⟩
  have HOP := hide (b_openOk 0 6 hD1 (by omega) (by simp [Dv.fresh]) (by simp [Dv.fresh]) hmd)
  clear hD1 hmd
  go_wp2_with fail
  refine HOP.out.mono ?_
  rintro e w2 ⟨q, rfl, hF2, _⟩
  have hgb2 := (hF2.below.block w.heap.size (by rw [HZ0.out]; omega)).trans HG0.out
  have hlb : w.heap.size < w2.heap.size := (Array.getElem?_eq_some_iff.1 hgb2).1
  have hF3 := (hF2.mind (ys := [w.heap.size]) (fun k hk => by simp at hk; subst hk; exact .inr (by rw [HZ0.out]; omega))).rebase HB0.out
  have hF4 := hF3.mindNew (w' := w2.alloc (.cells #[.slice none 0 0] 49)) (ys := [w2.heap.size, w.heap.size]) ((Below.refl _ _).alloc (Nat.le_refl _) _) (fun k hk => by
    simp only [List.mem_cons, List.not_mem_nil, or_false] at hk
    rcases hk with rfl | rfl
    · exact .inr ⟨Nat.le_refl _, by simp⟩
    · exact .inl (by simp))
  have HN := hide (pq_new m0 h1 h2 hF4 (well_more (fresh_well 40 (by omega) (by omega)) 1) (by rw [more_W]; rfl) (by rw [more_L]; simp [Dv.fresh]) (fun i hi => by rw [more_L]; exact disk_fresh 40 6 (by omega) i hi) (heap_alloc_new w2 _) ((Below.heap_alloc w2 _ _ hlb).trans hgb2) (by omega) hF3.below.size (Nat.le_refl _))
  obtain ⟨gb, hgb⟩ : ∃ gb, w.heap.size = gb := ⟨_, rfl⟩
  obtain ⟨gf, hgf⟩ : ∃ gf, w2.heap.size = gf := ⟨_, rfl⟩
  rw [hgf, hgb] at HN
  rw [hgb]
  clear HOP hF2 hF3 hF4 HG0 HZ0 HB0 hgb2 hlb hgb
  go_upto_region 4 with fail
  first | rw [hgf] | skip
  clear hgf
  go_wp2_with fail
  refine HN.out.mono ?_
  rintro e w3 ⟨P, G, rfl, hP3, _⟩
  have cb := hP3.cb
  have HP3 := hide hP3
  clear HN hP3
  go_wp2_with fail
  refine (rnew_ok bad m0 h1 h2 w3).mono ?_
  rintro e w4 ⟨r, gD, gF, fp, rfl, hR, hb4, hfp⟩
  have HT4 : Hid (TwoP gf gb bad w w4 P G q p r gD gF [] (Pl.made m0 (List.replicate 6 (zerosN 512)) []) (Pl.made m0 (List.replicate 6 (zerosN 512)) [])) :=
    ⟨fp, HP3.out.mindNew hb4 (fun k hk => by simp at hk; exact .inr ⟨hfp k hk, hR.lts k hk⟩), hR, fun k hk => Nat.le_trans HP3.out.below.size (hfp k hk), fun k hk => by simp at hk⟩
  clear HP3 hR hb4 hfp cb
  go_wp2_with fail
  refine (awake_any w4).mono ?_
  rintro e w5 ⟨rfl, hb5⟩
  have HT5 := hide (HT4.out.belowW hb5)
  clear HT4 hb5
  go_wp2_with fail
  go_loopw [16] (fun a wr => ∃ (k : Nat) (S : Pl (List Int)), k ≤ 100 ∧ a = .int .i64 k ∧ TwoP gf gb bad w wr P G q p r gD gF [] S S ∧ PInv S ∧ S.fo.length ≤ k ∧ S.wr ≤ k) (fun a _ => 101 - (intOf a).toNat)
  case atStart => exact ⟨0, _, by omega, rfl, HT5.out, PInv.made _, by simp [Pl.made], by simp [Pl.made]⟩
  case round =>
    clear HT5
    obtain ⟨k, S, hk, rfl, hT, hI, hfo, hwr⟩ := hrel
    have HT := hide hT
    have HI := hide hI
    clear hT hI
    by_cases hgo : k < len0 ∧ k < 100
    · obtain ⟨hlt, hk100⟩ := hgo
      obtain ⟨b, o, hab, hbl, kind, zP, zA, zS, hop⟩ := W0.out.2 k hlt
      subst hab
      have HR4 : Hid (wr.rangeAt b (o + k * 4) [.int .i64 kind, .int .i64 zP, .int .i64 zA, .int .i64 zS]) := fun j v hv => (HT.out.below.cell (p := ⟨b, o + k * 4 + j, none⟩) hbl).trans (hop.cells j v hv)
      have HOPB := hide (And.intro hop.slo hop.shi)
      clear hop
      go_upto_block 2 with (refine wpList_load_mid rfl 36 _ rfl b (o + k * 4) rfl [.int .i64 kind, .int .i64 zP, .int .i64 zA, .int .i64 zS] _ HR4.out Try.underlying36 rfl Try.size36n ?_)
      generalize hx1 : wr.alloc _ = x1
      have hG : x1.heap[wr.heap.size]? = some (.cells #[.int .i64 kind, .int .i64 zP, .int .i64 zA, .int .i64 zS] 36 (0, 0)) := by rw [← hx1]; exact heap_alloc_new _ _
      have hBx : Below wr.heap.size wr x1 := by rw [← hx1]; exact (Below.refl _ _).alloc (Nat.le_refl _) _
      have hgl : wr.heap.size < x1.heap.size := (Array.getElem?_eq_some_iff.1 hG).1
      have HT1 := hide (HT.out.mindNew (ys := [wr.heap.size]) hBx (fun k hk => by simp at hk; exact .inr (by omega)))
      have hg0 : w.heap.size ≤ wr.heap.size := HT.out.below.size
      have HHA := hide HT.out.hand
      clear hx1 HR4 hBx HT
      generalize wr.heap.size = g at *
      go_cut [18] (fun ok wx => ok = .bool true ∧ ∃ S2 : Pl (List Int), TwoP gf gb bad w wx P G q p r gD gF [] S2 S2 ∧ PInv S2 ∧ S2.fo.length ≤ k + 1 ∧ S2.wr ≤ k + 1)
      case first =>
        have c0 : x1.cell? ⟨g, 0, none⟩ = some (.int .i64 kind) := by rw [cell_of_row _ _ _ _ _ _ hG]; rfl
        have c1 : x1.cell? ⟨g, 1, none⟩ = some (.int .i64 zP) := by rw [cell_of_row _ _ _ _ _ _ hG]; rfl
        have c2 : x1.cell? ⟨g, 2, none⟩ = some (.int .i64 zA) := by rw [cell_of_row _ _ _ _ _ _ hG]; rfl
        have c3 : x1.cell? ⟨g, 3, none⟩ = some (.int .i64 zS) := by rw [cell_of_row _ _ _ _ _ _ hG]; rfl
        clear hG
        by_cases e0 : kind = 0
        · as_aux_lemma =>
            subst e0
            have HPI := hide (HI.out.rget (bad := bad) HHA.out zP)
            have HRG := hide (fun (W : World) (ys : List Nat) (T : Pl (List Int)) (hW : TwoP gf gb bad w W P G q p r gD gF ys T S) => t_rget hW HI.out zP (by omega) (by omega))
            by_cases hz : (S.rget bad zP).2.1 = 0
            · have HGE := hide (t_get HT1.out HI.out zP (by omega) (by omega) hz)
              obtain ⟨⟨bs, ez, S2⟩, hX⟩ : ∃ X, S.rget bad zP = X := ⟨_, rfl⟩
              rw [hX] at HGE HPI HRG hz
              have hz : ez = 0 := hz
              subst hz
              clear hX c2 c3
              go_wp2_with fail
              refine HGE.out.mono ?_
              rintro e x2 ⟨gx, cx, cur, rfl, hgx, hblk, hT2, hK2⟩
              have c1x : x2.cell? ⟨g, 1, none⟩ = some (.int .i64 zP) := (World.cell?_of_block (a := ⟨g, 1, none⟩) (hK2.2 g (by simp))).trans c1
              have HBK := hide hblk
              have HR2 := hide (HRG.out x2 _ _ hT2)
              have hgx0 : w.heap.size ≤ gx := by omega
              clear HGE hblk hT2 hK2 c1 HT1 HRG
              go_wp2_with fail
              refine HR2.out.mono ?_
              rintro e x3 ⟨rfl, hT3, hK3⟩
              have hb5 : bs.length = 512 := HPI.out.2.2.2.1 (by first | rfl | trivial)
              have hblk3 : x3.heap[gx]? = some (.cells cur 5 (0, 0)) := (hK3.2 gx (by simp)).trans HBK.out.blk
              have st := run_strS x3 gx 512 cx bs hb5 (BlkAt.src ⟨hblk3, HBK.out.pre, HBK.out.cap, HBK.out.size⟩)
              have HCS : Hid (∃ cs : Array Value, x3.heap[gx]? = some (.cells cs 5 (0, 0)) ∧ ∀ j, j < 512 → ∃ v : Int, cs[j]? = some (.int .u8 v)) := ⟨cur, hblk3, fun j hj => by
                have hp := HBK.out.pre
                have : (cur.toList.take bs.length)[j]? = (secCells bs)[j]? := by rw [hp]
                have e5 := secCells_get bs j (by omega)
                rw [List.getElem?_toArray] at e5
                rw [List.getElem?_take_of_lt (by omega), e5] at this
                exact ⟨_, by simpa using this⟩⟩
              have HT3 := hide hT3
              clear HR2 hT3 hK3 HBK hblk3 c1x
              generalize strOf bs = SB at *
              go_wp2_with fail
              go_loopw [23] (fun jv wx => ∃ j : Nat, j ≤ 512 ∧ jv = .int .i64 j ∧ TwoP gf gb bad w wx P G q p r gD gF [gx, g] S2 S2 ∧ ∃ cs : Array Value, wx.heap[gx]? = some (.cells cs 5 (0, 0)) ∧ ∀ j, j < 512 → ∃ v : Int, cs[j]? = some (.int .u8 v)) (fun jv _ => 513 - (intOf jv).toNat)
              case atStart => exact ⟨0, by omega, rfl, HT3.out, HCS.out⟩
              case round =>
                clear HT3 HCS st
                obtain ⟨j, hj, rfl, hT, cs, hcs, hsz⟩ := hrel
                have HT := hide hT
                clear hT
                by_cases hlt : j < 512
                · obtain ⟨v, hv⟩ := hsz j hlt
                  have hcl : wr.cell? ⟨gx, j, none⟩ = some (.int .u8 v) := by rw [cell_of_row _ _ _ _ _ _ hcs]; exact hv
                  have hfz := frozen_of_row wr gx j _ _ hcs
                  have HSZ := hide hsz
                  have HCS := hide hcs
                  clear hsz hcs hv
                  go_wp2_with fail
                  go_roundw
                  case rel =>
                    refine ⟨j + 1, by omega, by go_num, HT.out.write (by simp) hgx0 ((Off.refl [gx] wr).setCell _ _ (.inl (by simp))), _, heap_setCell_same wr gx j _ _ _ HCS.out, fun i hi => ?_⟩
                    rw [Array.getElem?_setIfInBounds]
                    split
                    · split
                      · exact ⟨_, rfl⟩
                      · rename_i h1 h2
                        obtain ⟨v', hv'⟩ := HSZ.out i hi
                        have := (Array.getElem?_eq_some_iff.1 hv').1
                        omega
                    · exact HSZ.out i hi
                  case measure => simp [intOf]; omega
                · go_wp2_with fail
                  go_meet
                  case rel => exact ⟨rfl, S2, HT.out.mind (fun k hk => by simp at hk), HPI.out.1, by have := HPI.out.2.1; omega, by have := HPI.out.2.2.1; omega⟩
            · have HGE := hide (t_getBad HT1.out HI.out zP (by omega) (by omega) hz)
              obtain ⟨⟨bs, ez, S2⟩, hX⟩ : ∃ X, S.rget bad zP = X := ⟨_, rfl⟩
              rw [hX] at HGE HPI HRG hz
              have hbn : bs = [] := HPI.out.2.2.2.2 hz
              subst hbn
              clear hX c2 c3 hz
              go_wp2_with fail
              refine HGE.out.mono ?_
              rintro e x2 ⟨rfl, hT2, hK2⟩
              have c1x : x2.cell? ⟨g, 1, none⟩ = some (.int .i64 zP) := (World.cell?_of_block (a := ⟨g, 1, none⟩) (hK2.2 g (by simp))).trans c1
              have HR2 := hide (HRG.out x2 _ _ hT2)
              clear HGE hT2 hK2 c1 HT1 HRG
              go_wp2_with fail
              refine HR2.out.mono ?_
              rintro e x3 ⟨rfl, hT3, hK3⟩
              have st := run_strnil x3
              have HT3 := hide hT3
              clear HR2 hT3 hK3 c1x
              generalize strOf [] = SB at *
              go_wp2_with fail
              go_loopw [23] (fun jv wx => jv = .int .i64 0 ∧ wx = x3) (fun jv _ => 1)
              case atStart => exact ⟨rfl, rfl⟩
              case round =>
                obtain ⟨rfl, hw3⟩ := hrel
                have hw3 := hw3.symm
                subst hw3
                go_wp2_with fail
                go_meet
                case rel => exact ⟨by simp, S2, HT3.out.mind (fun k hk => by simp at hk), HPI.out.1, by have := HPI.out.2.1; omega, by have := HPI.out.2.2.1; omega⟩
        have n0 : (kind == 0) = false := beq_eq_false_iff_ne.2 e0
        by_cases e1 : kind = 1
        · as_aux_lemma =>
            subst e1
            go_wp2_with fail
            refine (page_any zA zS x1).mono ?_
            rintro e x2 ⟨rfl, hgk, hb2⟩
            have hT2 := HT1.out.mindNew (ys := [x1.heap.size, g]) hb2 (fun k hk => by
              simp at hk
              rcases hk with rfl | rfl
              · exact .inr ⟨Nat.le_refl _, (Array.getElem?_eq_some_iff.1 hgk).1⟩
              · exact .inl (by simp))
            have HC : Hid (x2.cell? ⟨g, 1, none⟩ = some (.int .i64 zP) ∧ x2.cell? ⟨g, 3, none⟩ = some (.int .i64 zS)) := ⟨(hb2.cell (p := ⟨g, 1, none⟩) hgl).trans c1, (hb2.cell (p := ⟨g, 3, none⟩) hgl).trans c3⟩
            have hgk0 : w.heap.size ≤ x1.heap.size := by omega
            clear hb2 c0 c1 c2 c3
            generalize x1.heap.size = gk at *
            obtain ⟨bs, hbs⟩ : ∃ bs, pg zA zS = bs := ⟨_, rfl⟩
            have HBL : Hid (bs.length = 512) := by show _ = _; rw [← hbs]; exact length_pg _ _
            rw [hbs] at hgk
            have HGK := hide hgk
            have HPU : Hid (∀ W, Below x2.heap.size x2 W → x2.heap.size ≤ W.heap.size → W.heap[gk]? = x2.heap[gk]? → Calls Try.prog 13 #[.pointer (some ⟨P, 0, none⟩), .int .i64 zP, .slice (some ⟨gk, 0, none⟩) 512 512, .int .i64 zS] W fun e w' => e = .returned (.int .i64 (S.rput bad zP bs zS).1) ∧ TwoP gf gb bad w w' P G q p r gD gF [gk, g] (S.rput bad zP bs zS).2 S ∧ Kept [gk, g] W w') :=
              fun W hW _ hB => t_put (hT2.belowW hW) HI.out zP gk 512 bs HBL.out (by simp) (SrcAt.block (hB.trans HGK.out)) zS HOPB.out.1 HOPB.out.2 (by omega) (by omega)
            have HPI := hide (HI.out.rput (bad := bad) HHA.out zP bs HBL.out zS)
            clear hbs hgk hT2 HT1
            go_wp2_with fail
            refine wp_region_held_drew (S := fun w' => (w'.heap[g]? = x2.heap[g]?) ∧ w'.heap[gk]? = x2.heap[gk]?) (by kernel_rfl) ⟨rfl, rfl⟩ (fun hH => ?_)
            refine take_to 0 130 (.pointer (some ⟨P, 0, none⟩)) rfl (by kernel_rfl) (by kernel_rfl) (by kernel_rfl) (fun _ _ _ h => h) rfl (by rfl) (fun w hw => by rfl) hH ?_
            simp only [Act.put, List.setIfInBounds_toArray, List.set_cons_zero, List.set_cons_succ]
            refine take_to 1 131 (.pointer (some ⟨g, 1, none⟩)) rfl (by kernel_rfl) (by kernel_rfl) (by kernel_rfl) (fun _ _ _ h => h) rfl (by rfl) (fun w hw => by rfl) hH ?_
            simp only [Act.put, List.setIfInBounds_toArray, List.set_cons_zero, List.set_cons_succ]
            refine take_to 2 132 (.int .i64 zP) rfl (by kernel_rfl) (by kernel_rfl) (by kernel_rfl) (fun _ _ _ h => h) rfl (by rfl) (fun w hw => op_load _ _ 3 (.tmp 131) rfl (.pointer (some ⟨g, 1, none⟩)) _ rfl (run_loadAny w g 1 3 _ Try.isAgg3 ((World.cell?_of_block (a := ⟨g, 1, none⟩) hw.1).trans HC.out.1))) hH ?_
            simp only [Act.put, List.setIfInBounds_toArray, List.set_cons_zero, List.set_cons_succ]
            refine take_to 3 133 (.slice (some ⟨gk, 0, none⟩) 512 512) rfl (by kernel_rfl) (by kernel_rfl) (by kernel_rfl) (fun _ _ _ h => h) rfl (by rfl) (fun w hw => by rfl) hH ?_
            simp only [Act.put, List.setIfInBounds_toArray, List.set_cons_zero, List.set_cons_succ]
            refine take_to 4 134 (.pointer (some ⟨g, 3, none⟩)) rfl (by kernel_rfl) (by kernel_rfl) (by kernel_rfl) (fun _ _ _ h => h) rfl (by rfl) (fun w hw => by rfl) hH ?_
            simp only [Act.put, List.setIfInBounds_toArray, List.set_cons_zero, List.set_cons_succ]
            refine take_to 5 135 (.int .i64 zS) rfl (by kernel_rfl) (by kernel_rfl) (by kernel_rfl) (fun _ _ _ h => h) rfl (by rfl) (fun w hw => op_load _ _ 3 (.tmp 134) rfl (.pointer (some ⟨g, 3, none⟩)) _ rfl (run_loadAny w g 3 3 _ Try.isAgg3 ((World.cell?_of_block (a := ⟨g, 3, none⟩) hw.1).trans HC.out.2))) hH ?_
            simp only [Act.put, List.setIfInBounds_toArray, List.set_cons_zero, List.set_cons_succ]
            refine take_to 7 137 (.pointer (some ⟨r, 0, none⟩)) rfl (by kernel_rfl) (by kernel_rfl) (by kernel_rfl) (fun _ _ _ h => h) rfl (by rfl) (fun w hw => by rfl) hH ?_
            simp only [Act.put, List.setIfInBounds_toArray, List.set_cons_zero, List.set_cons_succ]
            refine take_to 8 138 (.pointer (some ⟨g, 1, none⟩)) rfl (by kernel_rfl) (by kernel_rfl) (by kernel_rfl) (fun _ _ _ h => h) rfl (by rfl) (fun w hw => by rfl) hH ?_
            simp only [Act.put, List.setIfInBounds_toArray, List.set_cons_zero, List.set_cons_succ]
            refine take_to 9 139 (.int .i64 zP) rfl (by kernel_rfl) (by kernel_rfl) (by kernel_rfl) (fun _ _ _ h => h) rfl (by rfl) (fun w hw => op_load _ _ 3 (.tmp 138) rfl (.pointer (some ⟨g, 1, none⟩)) _ rfl (run_loadAny w g 1 3 _ Try.isAgg3 ((World.cell?_of_block (a := ⟨g, 1, none⟩) hw.1).trans HC.out.1))) hH ?_
            simp only [Act.put, List.setIfInBounds_toArray, List.set_cons_zero, List.set_cons_succ]
            refine take_to 10 140 (.slice (some ⟨gk, 0, none⟩) 512 512) rfl (by kernel_rfl) (by kernel_rfl) (by kernel_rfl) (fun _ _ _ h => h) rfl (by rfl) (fun w hw => by rfl) hH ?_
            simp only [Act.put, List.setIfInBounds_toArray, List.set_cons_zero, List.set_cons_succ]
            refine take_to 11 141 (.string (strOf bs)) rfl (by kernel_rfl) (by kernel_rfl) (by kernel_rfl) (fun _ _ _ h => h) rfl (by rfl) (fun w hw => op_conv _ _ 37 9 (.tmp 140) rfl _ _ rfl (run_str w _ 512 512 _ HBL.out (hw.2.trans HGK.out))) hH ?_
            simp only [Act.put, List.setIfInBounds_toArray, List.set_cons_zero, List.set_cons_succ]
            refine take_to 12 142 (.pointer (some ⟨g, 3, none⟩)) rfl (by kernel_rfl) (by kernel_rfl) (by kernel_rfl) (fun _ _ _ h => h) rfl (by rfl) (fun w hw => by rfl) hH ?_
            simp only [Act.put, List.setIfInBounds_toArray, List.set_cons_zero, List.set_cons_succ]
            refine take_to 13 143 (.int .i64 zS) rfl (by kernel_rfl) (by kernel_rfl) (by kernel_rfl) (fun _ _ _ h => h) rfl (by rfl) (fun w hw => op_load _ _ 3 (.tmp 142) rfl (.pointer (some ⟨g, 3, none⟩)) _ rfl (run_loadAny w g 3 3 _ Try.isAgg3 ((World.cell?_of_block (a := ⟨g, 3, none⟩) hw.1).trans HC.out.2))) hH ?_
            simp only [Act.put, List.setIfInBounds_toArray, List.set_cons_zero, List.set_cons_succ]
            refine step_call4_to 6 136 13 rfl (by kernel_rfl) rfl (by rfl) (.tmp 130) (.tmp 132) (.tmp 133) (.tmp 135) _ rfl _ _ _ _ rfl rfl rfl rfl Try.enters13 (HPU.out _ (below_drewN _ _ 1) (Nat.le_refl _) hH.2) ?_
            rintro e x3 ⟨rfl, hT3, hK3⟩
            have hS3 : x3.heap[g]? = x2.heap[g]? ∧ x3.heap[gk]? = x2.heap[gk]? := ⟨(hK3.2 g (by simp)).trans hH.1, (hK3.2 gk (by simp)).trans hH.2⟩
            refine ⟨_, rfl, hS3, ?_⟩
            simp only [Act.put, List.setIfInBounds_toArray, List.set_cons_zero, List.set_cons_succ]
            refine step_call4_to 14 144 21 rfl (by kernel_rfl) rfl (by rfl) (.tmp 137) (.tmp 139) (.tmp 141) (.tmp 143) _ rfl _ _ _ _ rfl rfl rfl rfl Try.enters21 (t_rput hT3 HI.out zP bs HBL.out zS (by omega) (by omega)) ?_
            rintro e x4 ⟨rfl, hT4, hK4⟩
            have hS4 : x4.heap[g]? = x2.heap[g]? ∧ x4.heap[gk]? = x2.heap[gk]? := ⟨(hK4.2 g (by simp)).trans hS3.1, (hK4.2 gk (by simp)).trans hS3.2⟩
            refine ⟨_, rfl, hS4, ?_⟩
            simp only [Act.put, List.setIfInBounds_toArray, List.set_cons_zero, List.set_cons_succ]
            refine step_to 15 145 (.bool true) x4 rfl (by kernel_rfl) rfl (by rfl) (op_eql3 _ _ (.tmp 136) (.tmp 144) 3 rfl _ _ rfl rfl _ (by simp)) hS4 ?_
            simp only [Act.put, List.setIfInBounds_toArray, List.set_cons_zero, List.set_cons_succ]
            refine step_to 16 18 (.bool true) x4 rfl (by kernel_rfl) rfl (by rfl) (rfl) hS4 ?_
            simp only [Act.put, List.setIfInBounds_toArray, List.set_cons_zero, List.set_cons_succ]
            refine wpAnyH_done (by kernel_rfl) ?_ _
            have HT4 := hide hT4
            have HCS : Hid (∃ cs : Array Value, x4.heap[gk]? = some (.cells cs 5 (0, 0)) ∧ cs.size = 512) := ⟨_, hS4.2.trans HGK.out, by rw [List.size_toArray, length_secCells, HBL.out]⟩
            obtain ⟨⟨ez, S2⟩, hX⟩ : ∃ X, S.rput bad zP bs zS = X := ⟨_, rfl⟩
            rw [hX] at HT4 HPI
            clear hH hS3 hS4 hT3 hT4 hK3 hK4 HC HGK HPU hX
            go_wp2_with fail
            go_loopw [25] (fun jv wx => ∃ j : Nat, j ≤ 512 ∧ jv = .int .i64 j ∧ TwoP gf gb bad w wx P G q p r gD gF [gk, g] S2 S2 ∧ ∃ cs : Array Value, wx.heap[gk]? = some (.cells cs 5 (0, 0)) ∧ cs.size = 512) (fun jv _ => 513 - (intOf jv).toNat)
            case atStart => exact ⟨0, by omega, rfl, HT4.out, HCS.out⟩
            case round =>
              clear HT4 HCS
              obtain ⟨j, hj, rfl, hT, cs, hcs, hsz⟩ := hrel
              have HT := hide hT
              clear hT
              by_cases hlt : j < 512
              · have hcl : wr.cell? ⟨gk, j, none⟩ = some cs[j] := by rw [cell_of_row _ _ _ _ _ _ hcs]; exact Array.getElem?_eq_getElem (by omega)
                have hfz := frozen_of_row wr gk j _ _ hcs
                go_wp2_with fail
                go_roundw
                case rel => exact ⟨j + 1, by omega, by go_num, HT.out.write (by simp) hgk0 ((Off.refl [gk] wr).setCell _ _ (.inl (by simp))), _, heap_setCell_same wr gk j _ _ _ hcs, by simpa using hsz⟩
                case measure => simp [intOf]; omega
              · go_wp2_with fail
                go_meet
                case rel => exact ⟨rfl, S2, HT.out.mind (fun k hk => by simp at hk), HPI.out.1, by have := HPI.out.2.1; omega, by have := HPI.out.2.2; omega⟩
        have n1 : (kind == 1) = false := beq_eq_false_iff_ne.2 e1
        by_cases e2 : kind = 2
        · as_aux_lemma =>
            subst e2
            have HEV : Hid (∀ W, Below x1.heap.size x1 W → Calls Try.prog 10 #[.pointer (some ⟨P, 0, none⟩), .int .i64 zP] W fun e w' => e = .returned (.int .i64 (S.revict bad zP).1) ∧ TwoP gf gb bad w w' P G q p r gD gF [g] (S.revict bad zP).2 S ∧ Kept [g] W w') :=
              fun W hW => t_evict (HT1.out.belowW hW) HI.out zP (by omega) (by omega)
            have HPI := hide (HI.out.revict (bad := bad) zP)
            clear HT1 c2 c3
            go_wp2_with fail
            refine wp_region_held_drew (S := fun w' => w'.heap[g]? = x1.heap[g]?) (by kernel_rfl) rfl (fun hH => ?_)
            refine take_to 0 157 (.pointer (some ⟨P, 0, none⟩)) rfl (by kernel_rfl) (by kernel_rfl) (by kernel_rfl) (fun _ _ _ h => h) rfl (by rfl) (fun w hw => by rfl) hH ?_
            simp only [Act.put, List.setIfInBounds_toArray, List.set_cons_zero, List.set_cons_succ]
            refine take_to 1 158 (.pointer (some ⟨g, 1, none⟩)) rfl (by kernel_rfl) (by kernel_rfl) (by kernel_rfl) (fun _ _ _ h => h) rfl (by rfl) (fun w hw => by rfl) hH ?_
            simp only [Act.put, List.setIfInBounds_toArray, List.set_cons_zero, List.set_cons_succ]
            refine take_to 2 159 (.int .i64 zP) rfl (by kernel_rfl) (by kernel_rfl) (by kernel_rfl) (fun _ _ _ h => h) rfl (by rfl) (fun w hw => op_load _ _ 3 (.tmp 158) rfl (.pointer (some ⟨g, 1, none⟩)) _ rfl (run_loadAny w g 1 3 _ Try.isAgg3 ((World.cell?_of_block (a := ⟨g, 1, none⟩) hw).trans c1))) hH ?_
            simp only [Act.put, List.setIfInBounds_toArray, List.set_cons_zero, List.set_cons_succ]
            refine take_to 4 161 (.pointer (some ⟨r, 0, none⟩)) rfl (by kernel_rfl) (by kernel_rfl) (by kernel_rfl) (fun _ _ _ h => h) rfl (by rfl) (fun w hw => by rfl) hH ?_
            simp only [Act.put, List.setIfInBounds_toArray, List.set_cons_zero, List.set_cons_succ]
            refine take_to 5 162 (.pointer (some ⟨g, 1, none⟩)) rfl (by kernel_rfl) (by kernel_rfl) (by kernel_rfl) (fun _ _ _ h => h) rfl (by rfl) (fun w hw => by rfl) hH ?_
            simp only [Act.put, List.setIfInBounds_toArray, List.set_cons_zero, List.set_cons_succ]
            refine take_to 6 163 (.int .i64 zP) rfl (by kernel_rfl) (by kernel_rfl) (by kernel_rfl) (fun _ _ _ h => h) rfl (by rfl) (fun w hw => op_load _ _ 3 (.tmp 162) rfl (.pointer (some ⟨g, 1, none⟩)) _ rfl (run_loadAny w g 1 3 _ Try.isAgg3 ((World.cell?_of_block (a := ⟨g, 1, none⟩) hw).trans c1))) hH ?_
            simp only [Act.put, List.setIfInBounds_toArray, List.set_cons_zero, List.set_cons_succ]
            refine step_call2_to 3 160 10 rfl (by kernel_rfl) rfl (by rfl) (.tmp 157) (.tmp 159) _ rfl _ _ rfl rfl Try.enters10 (HEV.out _ (below_drewN _ _ 1)) ?_
            rintro e x3 ⟨rfl, hT3, hK3⟩
            have hS3 : x3.heap[g]? = x1.heap[g]? := (hK3.2 g (by simp)).trans hH
            refine ⟨_, rfl, hS3, ?_⟩
            simp only [Act.put, List.setIfInBounds_toArray, List.set_cons_zero, List.set_cons_succ]
            refine step_call2_to 7 164 22 rfl (by kernel_rfl) rfl (by rfl) (.tmp 161) (.tmp 163) _ rfl _ _ rfl rfl Try.enters22 (t_revict hT3 HI.out zP (by omega) (by omega)) ?_
            rintro e x4 ⟨rfl, hT4, hK4⟩
            have hS4 : x4.heap[g]? = x1.heap[g]? := (hK4.2 g (by simp)).trans hS3
            refine ⟨_, rfl, hS4, ?_⟩
            simp only [Act.put, List.setIfInBounds_toArray, List.set_cons_zero, List.set_cons_succ]
            refine step_to 8 165 (.bool true) x4 rfl (by kernel_rfl) rfl (by rfl) (op_eql3 _ _ (.tmp 160) (.tmp 164) 3 rfl _ _ rfl rfl _ (by simp)) hS4 ?_
            simp only [Act.put, List.setIfInBounds_toArray, List.set_cons_zero, List.set_cons_succ]
            refine step_to 9 18 (.bool true) x4 rfl (by kernel_rfl) rfl (by rfl) (rfl) hS4 ?_
            simp only [Act.put, List.setIfInBounds_toArray, List.set_cons_zero, List.set_cons_succ]
            refine wpAnyH_done (by kernel_rfl) ?_ _
            have HT4 := hide hT4
            clear hH hS3 hS4 hT3 hT4 hK3 hK4 HEV c1
            go_wp2_with fail
            go_meet
            case rel => exact ⟨by simp, _, HT4.out.mind (fun k hk => by simp at hk), HPI.out.1, by have := HPI.out.2.1; omega, by have := HPI.out.2.2; omega⟩
        have n2 : (kind == 2) = false := beq_eq_false_iff_ne.2 e2
        go_wp2_with fail
        go_meet
        case rel => exact ⟨rfl, S, HT1.out.mind (fun k hk => by simp at hk), HI.out, by omega, by omega⟩
      case rest =>
        as_aux_lemma =>
          obtain ⟨hok, S2, hT2, hI2, hfo2, hwr2⟩ := hcut
          subst hok
          clear HT1 HI HHA
          obtain ⟨cG, ao, cn, bo, dn, k1, k6, k5, kf, kF, kR, kS⟩ := hT2.cells
          have HT2 := hide hT2
          have HI2 := hide hI2
          have hn64 := hT2.f2
          have HWR : Hid (∀ W, Below wc.heap.size wc W → Calls Try.prog 15 #[.pointer (some ⟨P, 0, none⟩)] W fun e w' => e = .returned (.int .i64 (S2.wr : Int)) ∧ w' = W) := fun W hW => t_writes (hT2.belowW hW)
          have HDI : Hid (∀ W, Below wc.heap.size wc W → Calls Try.prog 14 #[.pointer (some ⟨P, 0, none⟩)] W fun e w' => ∃ v, e = .returned v ∧ DirtAt w' v (dirtE S2 6) ∧ Below W.heap.size W w') := fun W hW => t_dirty (hT2.belowW hW) hI2
          have HRD : Hid (∀ W, Below wc.heap.size wc W → Calls Try.prog 24 #[.pointer (some ⟨r, 0, none⟩)] W fun e w' => ∃ v, e = .returned v ∧ DirtAt w' v (dirtE S2 6) ∧ Below W.heap.size W w') := fun W hW => t_rdirty (hT2.belowW hW)
          have HDL : Hid ((dirtE S2 6).length ≤ 100) := Nat.le_trans (dirtE_le S2 6) (by omega)
          have HKF := hide kF
          obtain ⟨wn, hwn⟩ : ∃ wn, S2.wr = wn := ⟨_, rfl⟩
          rw [hwn] at HWR k6
          obtain ⟨fn, hfn⟩ : ∃ fn, S2.fo.length = fn := ⟨_, rfl⟩
          rw [hfn] at k5 kf
          obtain ⟨N, hN⟩ : ∃ N, S2.fs.length = N := ⟨_, rfl⟩
          have HN := hide hN
          rw [hN] at k1 hn64
          have HFO := hide hfo2
          have HWW := hide hwr2
          clear hT2 hI2 kF kR kS hwn hfn hN hfo2 hwr2
          go_wp2_with fail
          refine wp_region_held_drew (S := fun w' => w'.cell? ⟨r, 6, none⟩ = some (.int .i64 (wn : Int)) ∧ w'.cell? ⟨gf, 0, none⟩ = some (.slice bo fn dn) ∧ w'.cell? ⟨r, 5, none⟩ = some (.slice ao fn cn)) (by kernel_rfl) ⟨k6, kf, k5⟩ (fun hH => ?_)
          refine take_to 0 166 (.bool true) rfl (by kernel_rfl) (by kernel_rfl) (by kernel_rfl) (fun _ _ _ h => h) rfl (by rfl) (fun w hw => by rfl) hH ?_
          simp only [Act.put, List.setIfInBounds_toArray, List.set_cons_zero, List.set_cons_succ]
          refine take_to 1 167 (.bool false) rfl (by kernel_rfl) (by kernel_rfl) (by kernel_rfl) (fun _ _ _ h => h) rfl (by rfl) (fun w hw => by rfl) hH ?_
          simp only [Act.put, List.setIfInBounds_toArray, List.set_cons_zero, List.set_cons_succ]
          refine take_to 2 168 (.bool false) rfl (by kernel_rfl) (by kernel_rfl) (by kernel_rfl) (fun _ _ _ h => h) rfl (by rfl) (fun w hw => by rfl) hH ?_
          simp only [Act.put, List.setIfInBounds_toArray, List.set_cons_zero, List.set_cons_succ]
          refine take_to 3 169 (.pointer (some ⟨P, 0, none⟩)) rfl (by kernel_rfl) (by kernel_rfl) (by kernel_rfl) (fun _ _ _ h => h) rfl (by rfl) (fun w hw => by rfl) hH ?_
          simp only [Act.put, List.setIfInBounds_toArray, List.set_cons_zero, List.set_cons_succ]
          refine take_to 5 171 (.pointer (some ⟨r, 0, none⟩)) rfl (by kernel_rfl) (by kernel_rfl) (by kernel_rfl) (fun _ _ _ h => h) rfl (by rfl) (fun w hw => by rfl) hH ?_
          simp only [Act.put, List.setIfInBounds_toArray, List.set_cons_zero, List.set_cons_succ]
          refine take_to 6 172 (.pointer (some ⟨r, 0, none⟩)) rfl (by kernel_rfl) (by kernel_rfl) (by kernel_rfl) (fun _ _ _ h => h) rfl (by rfl) (fun w hw => by rfl) hH ?_
          simp only [Act.put, List.setIfInBounds_toArray, List.set_cons_zero, List.set_cons_succ]
          refine take_to 7 173 (.pointer (some ⟨r, 6, none⟩)) rfl (by kernel_rfl) (by kernel_rfl) (by kernel_rfl) (fun _ _ _ h => h) rfl (by rfl) (fun w hw => by rfl) hH ?_
          simp only [Act.put, List.setIfInBounds_toArray, List.set_cons_zero, List.set_cons_succ]
          refine take_to 8 174 (.int .i64 (wn : Int)) rfl (by kernel_rfl) (by kernel_rfl) (by kernel_rfl) (fun _ _ _ h => h) rfl (by rfl) (fun w hw => op_load _ _ 3 (.tmp 173) rfl (.pointer (some ⟨r, 6, none⟩)) _ rfl (run_loadAny w r (6) 3 _ Try.isAgg3 hw.1)) hH ?_
          simp only [Act.put, List.setIfInBounds_toArray, List.set_cons_zero, List.set_cons_succ]
          refine step_call1_to 4 170 15 rfl (by kernel_rfl) rfl (by rfl) (.tmp 169) _ rfl _ rfl Try.enters15 (HWR.out _ (below_drewN _ _ 1)) ?_
          rintro e wa ⟨rfl, hwa⟩
          subst hwa
          refine ⟨_, rfl, hH, ?_⟩
          simp only [Act.put, List.setIfInBounds_toArray, List.set_cons_zero, List.set_cons_succ]
          refine take_to 9 175 (.bool false) rfl (by kernel_rfl) (by kernel_rfl) (by kernel_rfl) (fun _ _ _ h => h) rfl (by rfl) (fun w hw => op_neq3 _ _ (.tmp 170) (.tmp 174) 3 rfl _ _ rfl rfl _ (by simp)) hH ?_
          simp only [Act.put, List.setIfInBounds_toArray, List.set_cons_zero, List.set_cons_succ]
          refine take_to 10 176 (.bool false) rfl (by kernel_rfl) (by kernel_rfl) (by kernel_rfl) (fun _ _ _ h => h) rfl (by rfl) (fun w hw => by rfl) hH ?_
          simp only [Act.put, List.setIfInBounds_toArray, List.set_cons_zero, List.set_cons_succ]
          refine take_to 11 177 (.bool false) rfl (by kernel_rfl) (by kernel_rfl) (by kernel_rfl) (fun _ _ _ h => h) rfl (by rfl) (fun w hw => by rfl) hH ?_
          simp only [Act.put, List.setIfInBounds_toArray, List.set_cons_zero, List.set_cons_succ]
          refine take_to 12 178 (.slice bo fn dn) rfl (by kernel_rfl) (by kernel_rfl) (by kernel_rfl) (fun _ _ _ h => h) rfl (by rfl) (fun w hw => op_load _ _ 49 (.tmp 11) rfl (.pointer (some ⟨gf, 0, none⟩)) _ rfl (run_loadAny w gf 0 49 _ Try.isAgg49 hw.2.1)) hH ?_
          simp only [Act.put, List.setIfInBounds_toArray, List.set_cons_zero, List.set_cons_succ]
          refine take_to 13 179 (.int .i64 (fn : Int)) rfl (by kernel_rfl) (by kernel_rfl) (by kernel_rfl) (fun _ _ _ h => h) rfl (by rfl) (fun w hw => op_len _ _ (.tmp 178) 49 3 Try.underlying49 rfl _ _ _ rfl) hH ?_
          simp only [Act.put, List.setIfInBounds_toArray, List.set_cons_zero, List.set_cons_succ]
          refine take_to 14 180 (.pointer (some ⟨r, 0, none⟩)) rfl (by kernel_rfl) (by kernel_rfl) (by kernel_rfl) (fun _ _ _ h => h) rfl (by rfl) (fun w hw => by rfl) hH ?_
          simp only [Act.put, List.setIfInBounds_toArray, List.set_cons_zero, List.set_cons_succ]
          refine take_to 15 181 (.pointer (some ⟨r, 0, none⟩)) rfl (by kernel_rfl) (by kernel_rfl) (by kernel_rfl) (fun _ _ _ h => h) rfl (by rfl) (fun w hw => by rfl) hH ?_
          simp only [Act.put, List.setIfInBounds_toArray, List.set_cons_zero, List.set_cons_succ]
          refine take_to 16 182 (.pointer (some ⟨r, 5, none⟩)) rfl (by kernel_rfl) (by kernel_rfl) (by kernel_rfl) (fun _ _ _ h => h) rfl (by rfl) (fun w hw => by rfl) hH ?_
          simp only [Act.put, List.setIfInBounds_toArray, List.set_cons_zero, List.set_cons_succ]
          refine take_to 17 183 (.slice ao fn cn) rfl (by kernel_rfl) (by kernel_rfl) (by kernel_rfl) (fun _ _ _ h => h) rfl (by rfl) (fun w hw => op_load _ _ 49 (.tmp 182) rfl (.pointer (some ⟨r, 5, none⟩)) _ rfl (run_loadAny w r (5) 49 _ Try.isAgg49 hw.2.2)) hH ?_
          simp only [Act.put, List.setIfInBounds_toArray, List.set_cons_zero, List.set_cons_succ]
          refine take_to 18 184 (.int .i64 (fn : Int)) rfl (by kernel_rfl) (by kernel_rfl) (by kernel_rfl) (fun _ _ _ h => h) rfl (by rfl) (fun w hw => op_len _ _ (.tmp 183) 49 3 Try.underlying49 rfl _ _ _ rfl) hH ?_
          simp only [Act.put, List.setIfInBounds_toArray, List.set_cons_zero, List.set_cons_succ]
          refine take_to 19 185 (.bool false) rfl (by kernel_rfl) (by kernel_rfl) (by kernel_rfl) (fun _ _ _ h => h) rfl (by rfl) (fun w hw => op_neq3 _ _ (.tmp 179) (.tmp 184) 3 rfl _ _ rfl rfl _ (by simp)) hH ?_
          simp only [Act.put, List.setIfInBounds_toArray, List.set_cons_zero, List.set_cons_succ]
          refine take_to 20 186 (.bool false) rfl (by kernel_rfl) (by kernel_rfl) (by kernel_rfl) (fun _ _ _ h => h) rfl (by rfl) (fun w hw => by rfl) hH ?_
          simp only [Act.put, List.setIfInBounds_toArray, List.set_cons_zero, List.set_cons_succ]
          refine take_to 21 187 (.bool false) rfl (by kernel_rfl) (by kernel_rfl) (by kernel_rfl) (fun _ _ _ h => h) rfl (by rfl) (fun w hw => by rfl) hH ?_
          simp only [Act.put, List.setIfInBounds_toArray, List.set_cons_zero, List.set_cons_succ]
          refine take_to 22 188 (.pointer (some ⟨P, 0, none⟩)) rfl (by kernel_rfl) (by kernel_rfl) (by kernel_rfl) (fun _ _ _ h => h) rfl (by rfl) (fun w hw => by rfl) hH ?_
          simp only [Act.put, List.setIfInBounds_toArray, List.set_cons_zero, List.set_cons_succ]
          refine take_to 24 190 (.pointer (some ⟨r, 0, none⟩)) rfl (by kernel_rfl) (by kernel_rfl) (by kernel_rfl) (fun _ _ _ h => h) rfl (by rfl) (fun w hw => by rfl) hH ?_
          simp only [Act.put, List.setIfInBounds_toArray, List.set_cons_zero, List.set_cons_succ]
          refine step_call1_to 23 189 14 rfl (by kernel_rfl) rfl (by rfl) (.tmp 188) _ rfl _ rfl Try.enters14 (HDI.out _ (below_drewN _ _ 1)) ?_
          rintro e wb ⟨v1, rfl, hd1, hb1⟩
          have hH1 : wb.cell? ⟨r, 6, none⟩ = some (.int .i64 (wn : Int)) ∧ wb.cell? ⟨gf, 0, none⟩ = some (.slice bo fn dn) ∧ wb.cell? ⟨r, 5, none⟩ = some (.slice ao fn cn) := ⟨(hb1.cell (p := ⟨r, 6, none⟩) (World.block_lt_of_cell? _ _ hH.1)).trans hH.1, (hb1.cell (p := ⟨gf, 0, none⟩) (World.block_lt_of_cell? _ _ hH.2.1)).trans hH.2.1, (hb1.cell (p := ⟨r, 5, none⟩) (World.block_lt_of_cell? _ _ hH.2.2)).trans hH.2.2⟩
          refine ⟨_, rfl, hH1, ?_⟩
          simp only [Act.put, List.setIfInBounds_toArray, List.set_cons_zero, List.set_cons_succ]
          refine step_call1_to 25 191 24 rfl (by kernel_rfl) rfl (by rfl) (.tmp 190) _ rfl _ rfl Try.enters24 (HRD.out _ ((below_drewN _ _ 1).trans hb1)) ?_
          rintro e wd ⟨v2, rfl, hd2, hb2⟩
          have hH2 : wd.cell? ⟨r, 6, none⟩ = some (.int .i64 (wn : Int)) ∧ wd.cell? ⟨gf, 0, none⟩ = some (.slice bo fn dn) ∧ wd.cell? ⟨r, 5, none⟩ = some (.slice ao fn cn) := ⟨(hb2.cell (p := ⟨r, 6, none⟩) (World.block_lt_of_cell? _ _ hH1.1)).trans hH1.1, (hb2.cell (p := ⟨gf, 0, none⟩) (World.block_lt_of_cell? _ _ hH1.2.1)).trans hH1.2.1, (hb2.cell (p := ⟨r, 5, none⟩) (World.block_lt_of_cell? _ _ hH1.2.2)).trans hH1.2.2⟩
          refine ⟨_, rfl, hH2, ?_⟩
          simp only [Act.put, List.setIfInBounds_toArray, List.set_cons_zero, List.set_cons_succ]
          refine step_call2_to 26 192 23 rfl (by kernel_rfl) rfl (by rfl) (.tmp 189) (.tmp 191) _ rfl _ _ rfl rfl Try.enters23 (dirtyq_any wd v1 v2 _ HDL.out (hd1.below hb2) hd2) ?_
          rintro e we ⟨rfl, hb3⟩
          have hH3 : we.cell? ⟨r, 6, none⟩ = some (.int .i64 (wn : Int)) ∧ we.cell? ⟨gf, 0, none⟩ = some (.slice bo fn dn) ∧ we.cell? ⟨r, 5, none⟩ = some (.slice ao fn cn) := ⟨(hb3.cell (p := ⟨r, 6, none⟩) (World.block_lt_of_cell? _ _ hH2.1)).trans hH2.1, (hb3.cell (p := ⟨gf, 0, none⟩) (World.block_lt_of_cell? _ _ hH2.2.1)).trans hH2.2.1, (hb3.cell (p := ⟨r, 5, none⟩) (World.block_lt_of_cell? _ _ hH2.2.2)).trans hH2.2.2⟩
          refine ⟨_, rfl, hH3, ?_⟩
          simp only [Act.put, List.setIfInBounds_toArray, List.set_cons_zero, List.set_cons_succ]
          refine take_to 27 193 (.bool false) rfl (by kernel_rfl) (by kernel_rfl) (by kernel_rfl) (fun _ _ _ h => h) rfl (by rfl) (fun w hw => by rfl) hH3 ?_
          simp only [Act.put, List.setIfInBounds_toArray, List.set_cons_zero, List.set_cons_succ]
          refine take_to 28 194 (.bool false) rfl (by kernel_rfl) (by kernel_rfl) (by kernel_rfl) (fun _ _ _ h => h) rfl (by rfl) (fun w hw => by rfl) hH3 ?_
          simp only [Act.put, List.setIfInBounds_toArray, List.set_cons_zero, List.set_cons_succ]
          refine wpAnyH_done (by kernel_rfl) ?_ _
          have HB31 := hide ((below_drewN wc.heap.size wc 1).trans (hb1.trans (hb2.mono hb1.size) |>.trans (hb3.mono (Nat.le_trans hb1.size hb2.size))))
          have HT3 := hide (HT2.out.belowW HB31.out)
          have l1 := World.block_lt_of_cell? _ _ k1
          have k1e : we.cell? ⟨r, 1, none⟩ = some (.slice (some ⟨gF, 0, none⟩) N cG) := (HB31.out.cell (p := ⟨r, 1, none⟩) l1).trans k1
          have HKE : Hid (∀ (i : Nat) (f : Fm), S2.fs[i]? = some f → we.cell? ⟨gF, i * 6, none⟩ = some (.int .i64 (pageNo f))) := fun i f hi => (HB31.out.cell (p := ⟨gF, i * 6, none⟩) (World.block_lt_of_cell? _ _ (HKF.out i f hi))).trans (HKF.out i f hi)
          clear hH hH1 hH2 hH3 hb1 hb2 hb3 hd1 hd2 HB31 HKF k1 k5 k6 kf l1 HT2 HWR HDI HRD HDL
          go_wp2_with fail
          go_loopw [26] (fun a wx => ∃ j : Nat, j ≤ 8 ∧ a = .int .i64 ((j : Int) - 1) ∧ wx = we) (fun a _ => (8 - intOf a).toNat)
          case atStart => exact ⟨0, by omega, rfl, rfl⟩
          case round =>
            obtain ⟨j, hj, rfl, hw⟩ := hrel
            have hw := hw.symm
            subst hw
            by_cases hj8 : j < 8
            · obtain ⟨n, hn⟩ : ∃ n : Int, (j : Int) - 1 = n := ⟨_, rfl⟩
              rw [hn]
              have hn1 : -1 ≤ n := by omega
              have hn7 : n < 7 := by omega
              have hnw : IntKind.i64.wrap (n + 1) = n + 1 := by rw [IntKind.wrap_i64]; omega
              have HJ := hide hn
              have HHS := hide (t_has HT3.out n)
              have HFA := hide (find_any_eq S2 n HI2.out)
              clear hn
              go_wp2_with fail
              go_loopw [28, 27] (fun a h wx => ∃ i : Nat, i ≤ N ∧ a = .int .i64 i ∧ h = .bool (hasU S2.fs n i) ∧ wx = we) (fun a _ _ => N - (intOf a).toNat)
              case atStart => exact ⟨0, by omega, rfl, by simp [hasU], rfl⟩
              case round =>
                obtain ⟨i, hi, rfl, rfl, hw⟩ := hrel
                have hw := hw.symm
                subst hw
                by_cases hiN : i < N
                · obtain ⟨f, hf⟩ : ∃ f, S2.fs[i]? = some f := ⟨_, List.getElem?_eq_getElem (by rw [HN.out]; exact hiN)⟩
                  have d0 := HKE.out i f hf
                  have HST := hide (hasU_succ S2.fs n i f hf)
                  obtain ⟨pn, hpn⟩ : ∃ pn, pageNo f = pn := ⟨_, rfl⟩
                  rw [hpn] at d0 HST
                  obtain ⟨u, hu⟩ : ∃ u, hasU S2.fs n i = u := ⟨_, rfl⟩
                  rw [hu] at HST ⊢
                  clear hf hpn hu
                  cases u with
                  | true =>
                    go_wp2_with fail
                    go_roundw
                    case rel => exact ⟨i + 1, by omega, by go_num, by rw [HST.out]; rfl, by first | rfl | trivial⟩
                    case measure => simp [intOf]; omega
                  | false =>
                    by_cases hn0 : n ≥ 0
                    · have hd0 : decide (n ≥ 0) = true := decide_eq_true hn0
                      go_wp2_with fail
                      go_roundw
                      case rel => exact ⟨i + 1, by omega, by go_num, by rw [HST.out]; simp; omega, by first | rfl | trivial⟩
                      case measure => simp [intOf]; omega
                    · have hd0 : decide (n ≥ 0) = false := decide_eq_false hn0
                      go_wp2_with fail
                      go_roundw
                      case rel => exact ⟨i + 1, by omega, by go_num, by rw [HST.out]; simp; omega, by first | rfl | trivial⟩
                      case measure => simp [intOf]; omega
                · have hi' : i = S2.fs.length := by rw [HN.out]; omega
                  have hall : hasU S2.fs n i = (S2.find n).isSome := by rw [hi', HFA.out]
                  rw [hall]
                  obtain ⟨u, hu⟩ : ∃ u, (S2.find n).isSome = u := ⟨_, rfl⟩
                  rw [hu] at HHS ⊢
                  have huu : (u != u) = false := by simp
                  clear hall hu hi'
                  go_wp2_with (go_at_call 25; refine HHS.out.mono ?_; rintro e w' ⟨rfl, hw⟩; have hw := hw.symm; subst hw)
                  go_roundw
                  case rel => exact ⟨j + 1, by omega, by have := HJ.out; simp; omega, by first | rfl | trivial⟩
                  case measure => have := HJ.out; simp [intOf]; omega
            · have hj8' : j = 8 := by omega
              subst hj8'
              go_wp2_with fail
              go_roundw
              case rel => exact ⟨k + 1, S2, by omega, by go_num, HT3.out, HI2.out, HFO.out, HWW.out⟩
              case measure => simp [intOf]; omega
    · skip
      have HB := hide HT.out.below
      obtain ⟨cG, ao, cn, bo, dn, k1, k6, k5, kf, kF, kR, kS⟩ := HT.out.cells
      obtain ⟨fn, hfn⟩ : ∃ fn, S.fo.length = fn := ⟨_, rfl⟩
      rw [hfn] at k5 kf
      have HKR := hide kR
      have HKS := hide kS
      have HFN := hide hfn
      have hfn100 : fn ≤ 100 := by omega
      clear HT HI kF kR kS k1 k6 hfn hfo hwr
      by_cases hlt : k < len0
      · have hk100 : ¬ ((k : Int) < 100) := by omega
        clear hgo
        go_wp2_with fail
        go_loopw [29] (fun a wx => ∃ j : Nat, j ≤ fn ∧ a = .int .i64 j ∧ Below wr.heap.size wr wx) (fun a _ => fn - (intOf a).toNat)
        case atStart => exact ⟨0, by omega, rfl, Below.refl _ _⟩
        case round wx =>
          obtain ⟨j, hj, rfl, hbx⟩ := hrel
          have l5 := World.block_lt_of_cell? _ _ k5
          have lf := World.block_lt_of_cell? _ _ kf
          have k5 := (hbx.cell (p := ⟨r, 5, none⟩) l5).trans k5
          have kf := (hbx.cell (p := ⟨gf, 0, none⟩) lf).trans kf
          by_cases hjl : j < fn
          · obtain ⟨l, hl⟩ : ∃ l, S.fo[j]? = some l := ⟨_, List.getElem?_eq_getElem (by rw [HFN.out]; exact hjl)⟩
            obtain ⟨gc, hgc, kc⟩ := HKR.out j l hl
            obtain ⟨ga, hga, ka⟩ := HKS.out j l hl
            subst hgc hga
            have kc := (hbx.cell (p := ⟨gc, j, none⟩) (World.block_lt_of_cell? _ _ kc)).trans kc
            have ka := (hbx.cell (p := ⟨ga, j, none⟩) (World.block_lt_of_cell? _ _ ka)).trans ka
            have HBX := hide hbx
            clear hbx hl l5 lf
            go_wp2_with fail
            refine wp_region_held_drew (S := fun w' => (w'.cell? ⟨gf, 0, none⟩ = some (.slice (some ⟨ga, 0, none⟩) fn dn) ∧ w'.cell? ⟨ga, j, none⟩ = some (.int .i64 l)) ∧ w'.cell? ⟨r, 5, none⟩ = some (.slice (some ⟨gc, 0, none⟩) fn cn) ∧ w'.cell? ⟨gc, j, none⟩ = some (.int .i64 l)) (by kernel_rfl) ⟨⟨kf, ka⟩, k5, kc⟩ (fun hH => ?_)
            refine take_to 0 236 (.slice (some ⟨ga, 0, none⟩) fn dn) rfl (by kernel_rfl) (by kernel_rfl) (by kernel_rfl) (fun _ _ _ h => h) rfl (by rfl) (fun w hw => op_load _ _ 49 (.tmp 11) rfl (.pointer (some ⟨gf, 0, none⟩)) _ rfl (run_loadAny w gf 0 49 _ Try.isAgg49 hw.1.1)) hH ?_
            simp only [Act.put, List.setIfInBounds_toArray, List.set_cons_zero, List.set_cons_succ]
            refine take_to 1 237 (.int .i64 (j : Int)) rfl (by kernel_rfl) (by kernel_rfl) (by kernel_rfl) (fun _ _ _ h => h) rfl (by rfl) (fun w hw => by rfl) hH ?_
            simp only [Act.put, List.setIfInBounds_toArray, List.set_cons_zero, List.set_cons_succ]
            refine take_to 2 238 (.pointer (some ⟨ga, j, none⟩)) rfl (by kernel_rfl) (by kernel_rfl) (by kernel_rfl) (fun _ _ _ h => h) rfl (by rfl) (fun w hw => op_index _ _ 49 (.tmp 236) (.tmp 237) rfl _ _ _ rfl rfl (run_index49 w ga _ _ _ hjl)) hH ?_
            simp only [Act.put, List.setIfInBounds_toArray, List.set_cons_zero, List.set_cons_succ]
            refine take_to 3 239 (.int .i64 l) rfl (by kernel_rfl) (by kernel_rfl) (by kernel_rfl) (fun _ _ _ h => h) rfl (by rfl) (fun w hw => op_load _ _ 3 (.tmp 238) rfl (.pointer (some ⟨ga, j, none⟩)) _ rfl (run_loadAny w ga (j) 3 _ Try.isAgg3 hw.1.2)) hH ?_
            simp only [Act.put, List.setIfInBounds_toArray, List.set_cons_zero, List.set_cons_succ]
            refine take_to 4 240 (.pointer (some ⟨r, 0, none⟩)) rfl (by kernel_rfl) (by kernel_rfl) (by kernel_rfl) (fun _ _ _ h => h) rfl (by rfl) (fun w hw => by rfl) hH ?_
            simp only [Act.put, List.setIfInBounds_toArray, List.set_cons_zero, List.set_cons_succ]
            refine take_to 5 241 (.pointer (some ⟨r, 0, none⟩)) rfl (by kernel_rfl) (by kernel_rfl) (by kernel_rfl) (fun _ _ _ h => h) rfl (by rfl) (fun w hw => by rfl) hH ?_
            simp only [Act.put, List.setIfInBounds_toArray, List.set_cons_zero, List.set_cons_succ]
            refine take_to 6 242 (.pointer (some ⟨r, 5, none⟩)) rfl (by kernel_rfl) (by kernel_rfl) (by kernel_rfl) (fun _ _ _ h => h) rfl (by rfl) (fun w hw => by rfl) hH ?_
            simp only [Act.put, List.setIfInBounds_toArray, List.set_cons_zero, List.set_cons_succ]
            refine take_to 7 243 (.slice (some ⟨gc, 0, none⟩) fn cn) rfl (by kernel_rfl) (by kernel_rfl) (by kernel_rfl) (fun _ _ _ h => h) rfl (by rfl) (fun w hw => op_load _ _ 49 (.tmp 242) rfl (.pointer (some ⟨r, 5, none⟩)) _ rfl (run_loadAny w r (5) 49 _ Try.isAgg49 hw.2.1)) hH ?_
            simp only [Act.put, List.setIfInBounds_toArray, List.set_cons_zero, List.set_cons_succ]
            refine take_to 8 244 (.int .i64 (j : Int)) rfl (by kernel_rfl) (by kernel_rfl) (by kernel_rfl) (fun _ _ _ h => h) rfl (by rfl) (fun w hw => by rfl) hH ?_
            simp only [Act.put, List.setIfInBounds_toArray, List.set_cons_zero, List.set_cons_succ]
            refine take_to 9 245 (.pointer (some ⟨gc, j, none⟩)) rfl (by kernel_rfl) (by kernel_rfl) (by kernel_rfl) (fun _ _ _ h => h) rfl (by rfl) (fun w hw => op_index _ _ 49 (.tmp 243) (.tmp 244) rfl _ _ _ rfl rfl (run_index49 w gc _ _ _ hjl)) hH ?_
            simp only [Act.put, List.setIfInBounds_toArray, List.set_cons_zero, List.set_cons_succ]
            refine take_to 10 246 (.int .i64 l) rfl (by kernel_rfl) (by kernel_rfl) (by kernel_rfl) (fun _ _ _ h => h) rfl (by rfl) (fun w hw => op_load _ _ 3 (.tmp 245) rfl (.pointer (some ⟨gc, j, none⟩)) _ rfl (run_loadAny w gc (j) 3 _ Try.isAgg3 hw.2.2)) hH ?_
            simp only [Act.put, List.setIfInBounds_toArray, List.set_cons_zero, List.set_cons_succ]
            refine take_to 11 247 (.bool false) rfl (by kernel_rfl) (by kernel_rfl) (by kernel_rfl) (fun _ _ _ h => h) rfl (by rfl) (fun w hw => op_neq3 _ _ (.tmp 239) (.tmp 246) 3 rfl _ _ rfl rfl _ (by simp)) hH ?_
            simp only [Act.put, List.setIfInBounds_toArray, List.set_cons_zero, List.set_cons_succ]
            refine wpAnyH_done (by kernel_rfl) ?_ _
            clear hH kc ka k5 kf
            go_wp2_with fail
            go_roundw
            case rel => exact ⟨j + 1, by omega, by go_num, HBX.out.trans ((below_drewN _ _ 1).mono HBX.out.size)⟩
            case measure => simp [intOf]; omega
          · have HBX := hide hbx
            clear hbx l5 lf
            go_wp2_with fail
            go_ret
            exact ⟨rfl, HB.out.trans (HBX.out.mono HB.out.size)⟩
      · clear hgo
        go_wp2_with fail
        go_loopw [29] (fun a wx => ∃ j : Nat, j ≤ fn ∧ a = .int .i64 j ∧ Below wr.heap.size wr wx) (fun a _ => fn - (intOf a).toNat)
        case atStart => exact ⟨0, by omega, rfl, Below.refl _ _⟩
        case round wx =>
          obtain ⟨j, hj, rfl, hbx⟩ := hrel
          have l5 := World.block_lt_of_cell? _ _ k5
          have lf := World.block_lt_of_cell? _ _ kf
          have k5 := (hbx.cell (p := ⟨r, 5, none⟩) l5).trans k5
          have kf := (hbx.cell (p := ⟨gf, 0, none⟩) lf).trans kf
          by_cases hjl : j < fn
          · obtain ⟨l, hl⟩ : ∃ l, S.fo[j]? = some l := ⟨_, List.getElem?_eq_getElem (by rw [HFN.out]; exact hjl)⟩
            obtain ⟨gc, hgc, kc⟩ := HKR.out j l hl
            obtain ⟨ga, hga, ka⟩ := HKS.out j l hl
            subst hgc hga
            have kc := (hbx.cell (p := ⟨gc, j, none⟩) (World.block_lt_of_cell? _ _ kc)).trans kc
            have ka := (hbx.cell (p := ⟨ga, j, none⟩) (World.block_lt_of_cell? _ _ ka)).trans ka
            have HBX := hide hbx
            clear hbx hl l5 lf
            go_wp2_with fail
            refine wp_region_held_drew (S := fun w' => (w'.cell? ⟨gf, 0, none⟩ = some (.slice (some ⟨ga, 0, none⟩) fn dn) ∧ w'.cell? ⟨ga, j, none⟩ = some (.int .i64 l)) ∧ w'.cell? ⟨r, 5, none⟩ = some (.slice (some ⟨gc, 0, none⟩) fn cn) ∧ w'.cell? ⟨gc, j, none⟩ = some (.int .i64 l)) (by kernel_rfl) ⟨⟨kf, ka⟩, k5, kc⟩ (fun hH => ?_)
            refine take_to 0 236 (.slice (some ⟨ga, 0, none⟩) fn dn) rfl (by kernel_rfl) (by kernel_rfl) (by kernel_rfl) (fun _ _ _ h => h) rfl (by rfl) (fun w hw => op_load _ _ 49 (.tmp 11) rfl (.pointer (some ⟨gf, 0, none⟩)) _ rfl (run_loadAny w gf 0 49 _ Try.isAgg49 hw.1.1)) hH ?_
            simp only [Act.put, List.setIfInBounds_toArray, List.set_cons_zero, List.set_cons_succ]
            refine take_to 1 237 (.int .i64 (j : Int)) rfl (by kernel_rfl) (by kernel_rfl) (by kernel_rfl) (fun _ _ _ h => h) rfl (by rfl) (fun w hw => by rfl) hH ?_
            simp only [Act.put, List.setIfInBounds_toArray, List.set_cons_zero, List.set_cons_succ]
            refine take_to 2 238 (.pointer (some ⟨ga, j, none⟩)) rfl (by kernel_rfl) (by kernel_rfl) (by kernel_rfl) (fun _ _ _ h => h) rfl (by rfl) (fun w hw => op_index _ _ 49 (.tmp 236) (.tmp 237) rfl _ _ _ rfl rfl (run_index49 w ga _ _ _ hjl)) hH ?_
            simp only [Act.put, List.setIfInBounds_toArray, List.set_cons_zero, List.set_cons_succ]
            refine take_to 3 239 (.int .i64 l) rfl (by kernel_rfl) (by kernel_rfl) (by kernel_rfl) (fun _ _ _ h => h) rfl (by rfl) (fun w hw => op_load _ _ 3 (.tmp 238) rfl (.pointer (some ⟨ga, j, none⟩)) _ rfl (run_loadAny w ga (j) 3 _ Try.isAgg3 hw.1.2)) hH ?_
            simp only [Act.put, List.setIfInBounds_toArray, List.set_cons_zero, List.set_cons_succ]
            refine take_to 4 240 (.pointer (some ⟨r, 0, none⟩)) rfl (by kernel_rfl) (by kernel_rfl) (by kernel_rfl) (fun _ _ _ h => h) rfl (by rfl) (fun w hw => by rfl) hH ?_
            simp only [Act.put, List.setIfInBounds_toArray, List.set_cons_zero, List.set_cons_succ]
            refine take_to 5 241 (.pointer (some ⟨r, 0, none⟩)) rfl (by kernel_rfl) (by kernel_rfl) (by kernel_rfl) (fun _ _ _ h => h) rfl (by rfl) (fun w hw => by rfl) hH ?_
            simp only [Act.put, List.setIfInBounds_toArray, List.set_cons_zero, List.set_cons_succ]
            refine take_to 6 242 (.pointer (some ⟨r, 5, none⟩)) rfl (by kernel_rfl) (by kernel_rfl) (by kernel_rfl) (fun _ _ _ h => h) rfl (by rfl) (fun w hw => by rfl) hH ?_
            simp only [Act.put, List.setIfInBounds_toArray, List.set_cons_zero, List.set_cons_succ]
            refine take_to 7 243 (.slice (some ⟨gc, 0, none⟩) fn cn) rfl (by kernel_rfl) (by kernel_rfl) (by kernel_rfl) (fun _ _ _ h => h) rfl (by rfl) (fun w hw => op_load _ _ 49 (.tmp 242) rfl (.pointer (some ⟨r, 5, none⟩)) _ rfl (run_loadAny w r (5) 49 _ Try.isAgg49 hw.2.1)) hH ?_
            simp only [Act.put, List.setIfInBounds_toArray, List.set_cons_zero, List.set_cons_succ]
            refine take_to 8 244 (.int .i64 (j : Int)) rfl (by kernel_rfl) (by kernel_rfl) (by kernel_rfl) (fun _ _ _ h => h) rfl (by rfl) (fun w hw => by rfl) hH ?_
            simp only [Act.put, List.setIfInBounds_toArray, List.set_cons_zero, List.set_cons_succ]
            refine take_to 9 245 (.pointer (some ⟨gc, j, none⟩)) rfl (by kernel_rfl) (by kernel_rfl) (by kernel_rfl) (fun _ _ _ h => h) rfl (by rfl) (fun w hw => op_index _ _ 49 (.tmp 243) (.tmp 244) rfl _ _ _ rfl rfl (run_index49 w gc _ _ _ hjl)) hH ?_
            simp only [Act.put, List.setIfInBounds_toArray, List.set_cons_zero, List.set_cons_succ]
            refine take_to 10 246 (.int .i64 l) rfl (by kernel_rfl) (by kernel_rfl) (by kernel_rfl) (fun _ _ _ h => h) rfl (by rfl) (fun w hw => op_load _ _ 3 (.tmp 245) rfl (.pointer (some ⟨gc, j, none⟩)) _ rfl (run_loadAny w gc (j) 3 _ Try.isAgg3 hw.2.2)) hH ?_
            simp only [Act.put, List.setIfInBounds_toArray, List.set_cons_zero, List.set_cons_succ]
            refine take_to 11 247 (.bool false) rfl (by kernel_rfl) (by kernel_rfl) (by kernel_rfl) (fun _ _ _ h => h) rfl (by rfl) (fun w hw => op_neq3 _ _ (.tmp 239) (.tmp 246) 3 rfl _ _ rfl rfl _ (by simp)) hH ?_
            simp only [Act.put, List.setIfInBounds_toArray, List.set_cons_zero, List.set_cons_succ]
            refine wpAnyH_done (by kernel_rfl) ?_ _
            clear hH kc ka k5 kf
            go_wp2_with fail
            go_roundw
            case rel => exact ⟨j + 1, by omega, by go_num, HBX.out.trans ((below_drewN _ _ 1).mono HBX.out.size)⟩
            case measure => simp [intOf]; omega
          · have HBX := hide hbx
            clear hbx l5 lf
            go_wp2_with fail
            go_ret
            exact ⟨rfl, HB.out.trans (HBX.out.mono HB.out.size)⟩
end Go.Proofs.Ytifoafiidplpiaa
