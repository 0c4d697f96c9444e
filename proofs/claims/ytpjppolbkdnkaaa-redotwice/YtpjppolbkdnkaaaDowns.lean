/- slices.Backward over the log. -/
import Derived.Test.YtpjppolbkdnkaaaRedo
import Derived.RangeFuncNested
import Derived.RangeFuncBox
import Derived.RangeFuncLeaves
import Derived.Shelf.Abstract
namespace Go.Proofs.Ytpjppolbkdnkaaa
open Go.RowKit Go.Shelf
set_option linter.unusedVariables false
set_option linter.unusedSimpArgs false
attribute [local go_sem] Oper.semAt_some

def Ln.zero : Ln := ⟨0, 0, 0, 0, 0, 0, 0, 0, ⟨none, 0, 0⟩, ⟨none, 0, 0⟩, ⟨none, 0, 0⟩, ⟨none, 0, 0⟩⟩
def downAt (L : List Ln) (j : Nat) : Nat × Ln := (L.length - 1 - j, L[L.length - 1 - j]?.getD Ln.zero)
def downs (L : List Ln) (k : Nat) : List (Nat × Ln) := (List.range k).map (downAt L)
theorem downs_succ (L : List Ln) (k : Nat) : downs L (k + 1) = downs L k ++ [downAt L k] := by simp [downs, List.range_succ]
theorem downs_length (L : List Ln) (k : Nat) : (downs L k).length = k := by simp [downs]
def dEnc (x : Nat × Ln) : Array Value := #[.int .i64 (x.1 : Int), .agg (lnCells x.2).toArray]

set_option maxRecDepth 100000 in
set_option maxHeartbeats 2000000 in
theorem down1_in (F : Fence) (n : Nat) (h8 : F.fn 49) (hro : F.round = none) (hn : 1 ≤ n) (l Bs : Nat) (w₀ : World) (la : Option Addr) (len cap : Nat) (L : List Ln) (hlen : L.length = len) (hL : LinesAt w₀ la L) (J Jx : List (Nat × Ln) → World → Prop)
    (hY : ∀ pre x W, J pre W → pre.length < len → YieldAt F (n - 1) Try.prog l (dEnc x) W fun e W' =>
      (e = .returned (.bool true) ∧ J (pre ++ [x]) W' ∧ Below w₀.heap.size W W') ∨ (e = .returned (.bool false) ∧ Jx (pre ++ [x]) W'))
    (W : World) (hBs : W.cell? ⟨Bs, 0, none⟩ = some (.slice la len cap)) (hKs : Bs < w₀.heap.size) (hW : Below w₀.heap.size w₀ W) (h0 : J [] W) :
    CallsIn F n Try.prog 49 #[.func (.yield l) #[] #[], .pointer (some ⟨Bs, 0, none⟩)] W fun e W' => (∃ v, e = .returned v) ∧
      ((∃ ys, ys = downs L len ∧ J ys W') ∨ (∃ pre, (∃ k, k ≤ len ∧ pre = downs L k) ∧ Jx pre W')) := by
  have hl1 : len ≤ 1000000 := by rw [← hlen]; exact hL.1
  refine callsIn_of_wp Try.func49 rfl h8 ?_ hro
  simp only [Try.ntmps49, List.size_toArray, List.length_cons, List.length_nil, Nat.reduceAdd, Nat.reduceSub, Array.replicate_succ, Array.replicate_zero, List.push_toArray, List.append_toArray, List.nil_append, List.cons_append]
  gi_wp2
  gi_loopw [3] (fun i wr => ∃ k : Nat, k ≤ len ∧ i = .int .i64 ((len : Int) - 1 - k) ∧ J (downs L k) wr ∧ Below w₀.heap.size W wr)
    (fun i _ => (iv i + 1).toNat)
  case atStart => exact ⟨0, Nat.zero_le _, by simp, h0, Below.refl _ _⟩
  case round =>
    obtain ⟨k, hk, rfl, hJs, hnx⟩ := hrel
    have hBs' : wr.cell? ⟨Bs, 0, none⟩ = some (.slice la len cap) := (hnx.cell (p := ⟨Bs, 0, none⟩) hKs).trans hBs
    by_cases hlt : k < len
    · obtain ⟨i, hi⟩ : ∃ i : Nat, (len : Int) - 1 - k = (i : Int) := ⟨len - 1 - k, by omega⟩
      have hi' : L.length - 1 - k = i := by omega
      have hil : i < len := by omega
      rw [hi]
      obtain ⟨x, hx⟩ : ∃ x, L[i]? = some x := ⟨_, List.getElem?_eq_getElem (by omega)⟩
      have hdx : downAt L k = (i, x) := by unfold downAt; rw [hi', hx]; rfl
      obtain ⟨hok, b, o, hab, hbl, hrg⟩ := hL.2 i x hx
      subst hab
      have HRG : Hid (wr.rangeAt b (o + i * 12) (lnCells x)) := fun q v hv => ((hW.trans hnx).cell (p := ⟨b, o + i * 12 + q, none⟩) hbl).trans (hrg q v hv)
      have e0 : wr.cell? ⟨b, o + i * 12, none⟩ = some (.int .i64 x.lsn) := HRG.out 0 _ rfl
      have e1 : wr.cell? ⟨b, o + i * 12 + 1, none⟩ = some (.int .i64 x.kind) := HRG.out 1 _ rfl
      have e2 : wr.cell? ⟨b, o + i * 12 + 2, none⟩ = some (.int .i64 x.txn) := HRG.out 2 _ rfl
      have e3 : wr.cell? ⟨b, o + i * 12 + 3, none⟩ = some (.int .i64 x.prev) := HRG.out 3 _ rfl
      have e4 : wr.cell? ⟨b, o + i * 12 + 4, none⟩ = some (.int .i64 x.next) := HRG.out 4 _ rfl
      have e5 : wr.cell? ⟨b, o + i * 12 + 5, none⟩ = some (.int .i64 x.page) := HRG.out 5 _ rfl
      have e6 : wr.cell? ⟨b, o + i * 12 + 6, none⟩ = some (.int .i64 x.off) := HRG.out 6 _ rfl
      have e7 : wr.cell? ⟨b, o + i * 12 + 7, none⟩ = some (.slice x.sb.a x.sb.n x.sb.c) := HRG.out 7 _ rfl
      have e8 : wr.cell? ⟨b, o + i * 12 + 8, none⟩ = some (.slice x.sa.a x.sa.n x.sa.c) := HRG.out 8 _ rfl
      have e9 : wr.cell? ⟨b, o + i * 12 + 9, none⟩ = some (.slice x.st.a x.st.n x.st.c) := HRG.out 9 _ rfl
      have e10 : wr.cell? ⟨b, o + i * 12 + 10, none⟩ = some (.slice x.sd.a x.sd.n x.sd.c) := HRG.out 10 _ rfl
      have e11 : wr.cell? ⟨b, o + i * 12 + 11, none⟩ = some (.int .i64 x.count) := HRG.out 11 _ rfl
      obtain ⟨fn, tmps, assign, body, hy, hR⟩ := hY _ (downAt L k) wr hJs (by rw [downs_length]; exact hlt)
      rw [hdx] at hy
      unfold dEnc lnCells recCells at hy
      dsimp only at hy
      gi_wp2
      refine hR.mono ?_
      rintro e W3 (⟨rfl, hJ3, hk3⟩ | ⟨rfl, hJx3⟩)
      · gi_wp2
        go_roundw
        case rel => exact ⟨k + 1, by omega, by rw [← hi]; congr 1; omega, by rw [downs_succ]; exact hJ3, hnx.trans hk3⟩
        case measure => simp [iv]
      · gi_wp2
        refine bodyPost_ret (results_none rfl _ _ _) rfl ?_
        exact ⟨⟨_, rfl⟩, .inr ⟨_, ⟨k + 1, by omega, (downs_succ _ _).symm⟩, hJx3⟩⟩
    · obtain rfl : k = len := by omega
      gi_wp2
      go_end0
      exact ⟨⟨_, rfl⟩, .inl ⟨_, rfl, hJs⟩⟩

set_option maxHeartbeats 1000000 in
theorem down_in (F : Fence) (n : Nat) (h6 : F.fn 33) (hro : F.round = none) (a : Option Addr) (len cap : Nat) (w : World) :
    CallsIn F n Try.prog 33 #[.slice a len cap] w fun e w' => e = .returned (.func (.func 49) #[] #[.pointer (some ⟨w.heap.size, 0, none⟩)]) ∧ w' = w.alloc (.cells #[.slice a len cap] 23) := by
  refine callsIn_of_wp Try.func33 rfl h6 ?_ hro
  simp only [Try.ntmps33, List.size_toArray, List.length_cons, List.length_nil, Nat.reduceAdd, Nat.reduceSub, Array.replicate_succ, Array.replicate_zero, List.push_toArray, List.append_toArray, List.nil_append, List.cons_append]
  gi_wp2
  go_ret
  exact ⟨rfl, rfl⟩

/-- slices.Backward(log) gives the lines from the last to the first; what lies in w₀ must stay. -/
theorem down_stops (F : Fence) (n : Nat) (h8 : F.fn 49) (hro : F.round = none) (hn : 1 ≤ n) (Bs : Nat) (la : Option Addr) (len cap : Nat) (L : List Ln) (hlen : L.length = len) (w₀ : World) (hBs : Bs < w₀.heap.size) (hc : w₀.cell? ⟨Bs, 0, none⟩ = some (.slice la len cap)) (hL : LinesAt w₀ la L) :
    SeqStopsK F n Try.prog 49 #[.pointer (some ⟨Bs, 0, none⟩)] dEnc (Below w₀.heap.size) (fun ys => ys = downs L len) (fun pre => ∃ k, k ≤ len ∧ pre = downs L k) len w₀ := fun l J Jx W hW _ _ hY h0 =>
  down1_in F n h8 hro hn l Bs w₀ la len cap L hlen hL J Jx hY W ((hW.cell (p := ⟨Bs, 0, none⟩) hBs).trans hc) hBs hW h0

def nextOf (L : List Ln) (t : Int) : Int := ((L.reverse.find? (fun x => x.txn == t)).map Ln.lsn).getD 0
theorem downs_snd (L : List Ln) : ∀ k, k ≤ L.length → (downs L k).map Prod.snd = L.reverse.take k
  | 0, _ => by simp [downs]
  | k + 1, h => by
    rw [downs_succ, List.map_append, downs_snd L k (by omega)]
    have hk : k < L.reverse.length := by rw [List.length_reverse]; omega
    rw [List.take_succ_eq_append_getElem hk, List.getElem_reverse]
    simp [downAt]
    rw [List.getElem?_eq_getElem (by omega)]
    rfl
theorem cellsOwn {X Y : World} {row : Option Nat} {B : Nat} {c : Array Value} {t : TypeId} {fr : Nat × Nat} (h : X.heap[B]? = some (.cells c t fr)) (hg : X.grownBy Y row) (hr : ∀ r, row = some r → ∃ o : Obj, X.heap[r]? = some o ∧ o.isCells = false) : Y.heap[B]? = some (.cells c t fr) :=
  (hg.block B (Array.getElem?_eq_some_iff.1 h).1 (fun e => by obtain ⟨o, ho, hc⟩ := hr B e.symm; rw [h] at ho; cases ho; cases hc)).trans h

set_option maxRecDepth 100000 in
set_option maxHeartbeats 2000000 in
theorem next_in (F : Fence) (n : Nat) (h4 : F.fn 14) (h6 : F.fn 33) (h8 : F.fn 49) (hro : F.round = none) (hn : 3 ≤ n) (la : Option Addr) (len cap : Nat) (L : List Ln) (t : Int) (hlen : L.length = len) (w : World) (hL : LinesAt w la L) :
    CallsIn F n Try.prog 14 #[.slice la len cap, .int .i64 t] w fun e W' => e = .returned (.int .i64 (nextOf L t)) ∧ Below w.heap.size w W' := by
  have h1 : 1 ≤ n := by omega
  refine callsIn_of_wp_marks Try.func14 rfl h4 ?_ hro
  simp only [Try.ntmps14, List.size_toArray, List.length_cons, List.length_nil, Nat.reduceAdd, Nat.reduceSub, Array.replicate_succ, Array.replicate_zero, List.push_toArray, List.append_toArray, List.nil_append, List.cons_append]
  gi_wp2_with (gi_at_call 33; refine (down_in F (n - 1) h6 hro _ _ _ _).mono ?_; rintro e w' ⟨rfl, rfl⟩)
  have bT := Boxed.new w 3 (.int .i64 t)
  have bR := Boxed.new (w.alloc (.cells #[.int .i64 t] 3)) 3 (.int .i64 0)
  have bN := Boxed.new ((w.alloc (.cells #[.int .i64 t] 3)).alloc (.cells #[.int .i64 0] 3)) 23 (.slice la len cap)
  rw [World.size_alloc] at bR
  rw [World.size_alloc, World.size_alloc] at bN
  have bT := (bT.alloc (.cells #[.int .i64 0] 3)).alloc (.cells #[.slice la len cap] 23)
  have bR := bR.alloc (.cells #[.slice la len cap] 23)
  have hB0 : Below w.heap.size w (((w.alloc (.cells #[.int .i64 t] 3)).alloc (.cells #[.int .i64 0] 3)).alloc (.cells #[.slice la len cap] 23)) := (((Below.refl _ w).alloc (Nat.le_refl _) _).alloc (by simp) _).alloc (by simp; omega) _
  have hsz : (((w.alloc (.cells #[.int .i64 t] 3)).alloc (.cells #[.int .i64 0] 3)).alloc (.cells #[.slice la len cap] 23)).heap.size = w.heap.size + 3 := by simp
  obtain ⟨W0, hW0⟩ : ∃ W0, ((w.alloc (.cells #[.int .i64 t] 3)).alloc (.cells #[.int .i64 0] 3)).alloc (.cells #[.slice la len cap] 23) = W0 := ⟨_, rfl⟩
  rw [hW0] at bT bR bN hB0 hsz ⊢
  clear hW0
  refine wpIn_rangeFunc_ownH hro h1 (gf := 49) (lb := #[.pointer (some ⟨w.heap.size + 1 + 1, 0, none⟩)]) rfl h8 (enters_of Try.func49 (by kernel_rfl) rfl)
    (down_stops F (n - 1) h8 hro (by omega) (w.heap.size + 1 + 1) la len cap L hlen W0 (by omega) bN.cell (hL.below hB0)) belowK_t (belowK_b (Nat.le_refl _)) (Below.refl _ _) (fun _ => rfl)
    (fun pre W => ((∀ p ∈ pre, p.2.txn ≠ t) ∧ Boxed W w.heap.size 3 (.int .i64 t) ∧ Boxed W (w.heap.size + 1) 3 (.int .i64 0)) ∧ Below W0.heap.size W0 W)
    (fun c pre W => (c = .ret ∧ ∃ ini last, pre = ini ++ [last] ∧ (∀ p ∈ ini, p.2.txn ≠ t) ∧ last.2.txn = t ∧ W.cell? ⟨w.heap.size + 1, 0, none⟩ = some (.int .i64 last.2.lsn)) ∧ Below w.heap.size w W)
    (OwnFrom.and (Own.from (fun s A B row hs hg hr => ⟨hs.1, cellsOwn hs.2.1 hg hr, cellsOwn hs.2.2 hg hr⟩) _) (ownFrom_below (Nat.le_refl _) (Nat.le_refl _)))
    (fun c => OwnFrom.and (Own.from (fun s A B row hs hg hr => by obtain ⟨hc, ini, last, e1, e2, e3, e4⟩ := hs; exact ⟨hc, ini, last, e1, e2, e3, cell_kept e4 hg hr⟩) _) (ownFrom_below (Nat.le_refl _) (by omega)))
    ⟨⟨by simp, bT, bR⟩, Below.refl _ _⟩
    (fun x a' W => ∃ Bx, w.heap.size + 1 < Bx ∧ W.heap[Bx]? = some (.cells (lnCells x.2).toArray 34 (0, 0)) ∧ a' = { tmps := #[.slice la len cap, .int .i64 t, undef, .pointer (some ⟨w.heap.size, 0, none⟩), .pointer (some ⟨w.heap.size + 1, 0, none⟩), undef, .pointer (some ⟨Bx, 0, none⟩), .slice la len cap, .func (.func 49) #[] #[.pointer (some ⟨w.heap.size + 1 + 1, 0, none⟩)], .int .i64 (x.1 : Int), .agg (lnCells x.2).toArray, undef, undef, undef, undef, undef, undef, undef], defers := [] })
    (fun x a' _ X Y row hs hg hr => by obtain ⟨Bx, h1, h2, h3⟩ := hs; exact ⟨Bx, h1, cellsOwn h2 hg (fun r e => (hr r e).2), h3⟩)
    ?assign ?body ?done ?stop
  case assign =>
    rintro l pre x W K ⟨⟨hp, bT1, bR1⟩, hB1⟩ hK
    unfold dEnc lnCells recCells
    gi_wp2
    exact hK _ _ ((KeepsOthers.alloc _ _).from _) ((Below.refl _ W).alloc hB1.size _) ⟨⟨hp, bT1.alloc _, bR1.alloc _⟩, hB1.alloc hB1.size _⟩ ⟨W.heap.size, by have := hB1.size; omega, heap_alloc_new _ _, rfl⟩
  case body =>
    rintro l pre x a' W hl hr ⟨⟨hp, bT1, bR1⟩, hB1⟩ ⟨Bx, hBx, bX, rfl⟩ hlt
    have c1 := bT1.cell
    have c2 := bR1.cell
    have f2 := bR1.frozen
    have c3 : W.cell? ⟨Bx, 2, none⟩ = some (.int .i64 x.2.txn) := by rw [cell_of_row _ _ _ _ _ _ bX]; rfl
    have c4 : W.cell? ⟨Bx, 0, none⟩ = some (.int .i64 x.2.lsn) := by rw [cell_of_row _ _ _ _ _ _ bX]; rfl
    by_cases hx : x.2.txn = t
    · have hxb : (x.2.txn == t) = true := by simp [hx]
      gi_wp2
      exact ⟨(KeepsOthers.setCell _ _ _).from _, ⟨rfl, pre, x, rfl, hp, hx, World.cell?_setCell_same' _ _ _ (by rw [c2]; rfl)⟩, (hB0.trans (hB1.mono (by omega))).setCell (p := ⟨w.heap.size + 1, 0, none⟩) (by simp) _⟩
    · have hxb : (x.2.txn == t) = false := by simp [hx]
      gi_wp2
      exact ⟨KeepsFrom.refl _ _, Below.refl _ _, ⟨fun p hp' => (List.mem_append.1 hp').elim (hp p) (fun e => by simp at e; subst e; exact hx), bT1, bR1⟩, hB1⟩
  case done =>
    rintro D ys W hD rfl ⟨⟨hne, bT1, bR1⟩, hB1⟩ hK
    have c2 := bR1.cell
    have f2 := bR1.frozen
    gi_wp2
    have hK' := (KeepsOthers.setCell W ⟨w.heap.size + 1, 0, none⟩ (.int .i64 0)).same D _ hK rfl
    refine ⟨by simp, .inl ⟨_, _, rfl, run_takeDeferred hK', ?_⟩⟩
    have hc5 := cell_kept (World.cell?_setCell_same' W ⟨w.heap.size + 1, 0, none⟩ (.int .i64 0) (by rw [c2]; rfl)) (grownBy_putObj' _ D (.deferred none)) (fun r e => by cases e; exact ⟨_, hK', rfl⟩)
    have hv : nextOf L t = 0 := by
      unfold nextOf
      have e := downs_snd L L.length (Nat.le_refl _)
      rw [← List.length_reverse, List.take_length] at e
      rw [List.find?_eq_none.2 (fun y hy => ?_)]
      · rfl
      · rw [← e] at hy
        obtain ⟨p, hp, rfl⟩ := List.mem_map.1 hy
        have := hne p (by rw [← hlen]; simpa using hp)
        simpa using this
    refine ⟨.int .i64 0, ?_, by rw [hv], ((hB0.trans (hB1.mono (by omega))).setCell (p := ⟨w.heap.size + 1, 0, none⟩) (by simp) _).trans (belowK_b (w := w) (Nat.le_refl _) _ D _ _ (by omega) hK' rfl rfl)⟩
    simp [results, Try.f14, go_sem, hc5]
  case stop =>
    rintro D c pre W hD ⟨k, hk, rfl⟩ ⟨⟨rfl, ini, last, e1, e2, e3, hcr⟩, hB⟩ hK
    gi_wp2
    refine ⟨by simp, .inl ⟨_, _, rfl, run_takeDeferred hK, ?_⟩⟩
    have hc5 := cell_kept hcr (grownBy_putObj' _ D (.deferred none)) (fun r e => by cases e; exact ⟨_, hK, rfl⟩)
    have hv : nextOf L t = last.2.lsn := by
      unfold nextOf
      have e := downs_snd L k (by omega)
      rw [e1, List.map_append] at e
      have e' : L.reverse = ini.map Prod.snd ++ (last.2 :: L.reverse.drop k) := by
        have h := (List.take_append_drop k L.reverse).symm
        rw [← e] at h
        simpa using h
      rw [e', List.find?_append, List.find?_eq_none.2 (fun y hy => ?_)]
      · simp [e3]
      · obtain ⟨p, hp, rfl⟩ := List.mem_map.1 hy
        simpa using e2 p hp
    refine ⟨.int .i64 last.2.lsn, ?_, by rw [hv], hB.trans (belowK_b (w := w) (Nat.le_refl _) W D _ _ (by omega) hK rfl rfl)⟩
    simp [results, Try.f14, go_sem, hc5]
theorem next_any (la : Option Addr) (len cap : Nat) (L : List Ln) (t : Int) (hlen : L.length = len) (w : World) (hL : LinesAt w la L) :
    Calls Try.prog 14 #[.slice la len cap, .int .i64 t] w fun e W' => e = .returned (.int .i64 (nextOf L t)) ∧ Below w.heap.size w W' :=
  (callsIn_wide (n := 6)).1 (next_in Fence.wide 6 trivial trivial trivial rfl (by omega) la len cap L t hlen w hL)
end Go.Proofs.Ytpjppolbkdnkaaa
