/- behindCheckpoint where there is none. -/
import Derived.Test.YtpjppolbkdnkaaaDowns
namespace Go.Proofs.Ytpjppolbkdnkaaa
open Go.RowKit Go.Shelf
set_option linter.unusedVariables false
set_option linter.unusedSimpArgs false
attribute [local go_sem] Oper.semAt_some

/-- A line of the log, with its place. -/
abbrev LnOf (L : List Ln) := { p : Nat × Ln // L[p.1]? = some p.2 }
set_option maxRecDepth 100000 in
set_option maxHeartbeats 2000000 in
theorem down1s_in (F : Fence) (n : Nat) (h8 : F.fn 49) (hro : F.round = none) (hn : 1 ≤ n) (l Bs : Nat) (w₀ : World) (la : Option Addr) (len cap : Nat) (L : List Ln) (hlen : L.length = len) (hL : LinesAt w₀ la L) (J Jx : List (LnOf L) → World → Prop)
    (hY : ∀ pre x W, J pre W → pre.length < len → YieldAt F (n - 1) Try.prog l (dEnc x.1) W fun e W' =>
      (e = .returned (.bool true) ∧ J (pre ++ [x]) W' ∧ Below w₀.heap.size W W') ∨ (e = .returned (.bool false) ∧ Jx (pre ++ [x]) W'))
    (W : World) (hBs : W.cell? ⟨Bs, 0, none⟩ = some (.slice la len cap)) (hKs : Bs < w₀.heap.size) (hW : Below w₀.heap.size w₀ W) (h0 : J [] W) :
    CallsIn F n Try.prog 49 #[.func (.yield l) #[] #[], .pointer (some ⟨Bs, 0, none⟩)] W fun e W' => (∃ v, e = .returned v) ∧
      ((∃ ys, ys.map Subtype.val = downs L len ∧ J ys W') ∨ (∃ pre, (∃ k, k ≤ len ∧ pre.map Subtype.val = downs L k) ∧ Jx pre W')) := by
  have hl1 : len ≤ 1000000 := by rw [← hlen]; exact hL.1
  refine callsIn_of_wp Try.func49 rfl h8 ?_ hro
  simp only [Try.ntmps49, List.size_toArray, List.length_cons, List.length_nil, Nat.reduceAdd, Nat.reduceSub, Array.replicate_succ, Array.replicate_zero, List.push_toArray, List.append_toArray, List.nil_append, List.cons_append]
  gi_wp2
  gi_loopw [3] (fun i wr => ∃ (k : Nat) (ys : List (LnOf L)), k ≤ len ∧ i = .int .i64 ((len : Int) - 1 - k) ∧ ys.map Subtype.val = downs L k ∧ J ys wr ∧ Below w₀.heap.size W wr)
    (fun i _ => (iv i + 1).toNat)
  case atStart => exact ⟨0, [], Nat.zero_le _, by simp, rfl, h0, Below.refl _ _⟩
  case round =>
    obtain ⟨k, ys, hk, rfl, hys, hJs, hnx⟩ := hrel
    have hBs' : wr.cell? ⟨Bs, 0, none⟩ = some (.slice la len cap) := (hnx.cell (p := ⟨Bs, 0, none⟩) hKs).trans hBs
    by_cases hlt : k < len
    · obtain ⟨i, hi⟩ : ∃ i : Nat, (len : Int) - 1 - k = (i : Int) := ⟨len - 1 - k, by omega⟩
      have hi' : L.length - 1 - k = i := by omega
      have hil : i < len := by omega
      rw [hi]
      obtain ⟨x, hx⟩ : ∃ x, L[i]? = some x := ⟨_, List.getElem?_eq_getElem (by omega)⟩
      have hdx : downAt L k = (i, x) := by unfold downAt; rw [hi', hx]; rfl
      obtain ⟨hok, b, o, hab, hbl, hrg⟩ := hL.2 i x hx
      subst hab
      have HRG : Hid (wr.rangeAt b (o + i * 12) (lnCells x)) := fun q v hv => ((hW.trans hnx).cell (p := ⟨b, o + i * 12 + q, none⟩) hbl).trans (hrg q v hv)
      have e0 : wr.cell? ⟨b, o + i * 12, none⟩ = some (.int .i64 x.lsn) := HRG.out 0 _ rfl
      have e1 : wr.cell? ⟨b, o + i * 12 + 1, none⟩ = some (.int .i64 x.kind) := HRG.out 1 _ rfl
      have e2 : wr.cell? ⟨b, o + i * 12 + 2, none⟩ = some (.int .i64 x.txn) := HRG.out 2 _ rfl
      have e3 : wr.cell? ⟨b, o + i * 12 + 3, none⟩ = some (.int .i64 x.prev) := HRG.out 3 _ rfl
      have e4 : wr.cell? ⟨b, o + i * 12 + 4, none⟩ = some (.int .i64 x.next) := HRG.out 4 _ rfl
      have e5 : wr.cell? ⟨b, o + i * 12 + 5, none⟩ = some (.int .i64 x.page) := HRG.out 5 _ rfl
      have e6 : wr.cell? ⟨b, o + i * 12 + 6, none⟩ = some (.int .i64 x.off) := HRG.out 6 _ rfl
      have e7 : wr.cell? ⟨b, o + i * 12 + 7, none⟩ = some (.slice x.sb.a x.sb.n x.sb.c) := HRG.out 7 _ rfl
      have e8 : wr.cell? ⟨b, o + i * 12 + 8, none⟩ = some (.slice x.sa.a x.sa.n x.sa.c) := HRG.out 8 _ rfl
      have e9 : wr.cell? ⟨b, o + i * 12 + 9, none⟩ = some (.slice x.st.a x.st.n x.st.c) := HRG.out 9 _ rfl
      have e10 : wr.cell? ⟨b, o + i * 12 + 10, none⟩ = some (.slice x.sd.a x.sd.n x.sd.c) := HRG.out 10 _ rfl
      have e11 : wr.cell? ⟨b, o + i * 12 + 11, none⟩ = some (.int .i64 x.count) := HRG.out 11 _ rfl
      obtain ⟨fn, tmps, assign, body, hy, hR⟩ := hY ys ⟨(i, x), hx⟩ wr hJs (by have := congrArg List.length hys; rw [List.length_map, downs_length] at this; omega)
      unfold dEnc lnCells recCells at hy
      dsimp only at hy
      gi_wp2
      refine hR.mono ?_
      rintro e W3 (⟨rfl, hJ3, hk3⟩ | ⟨rfl, hJx3⟩)
      · gi_wp2
        go_roundw
        case rel => exact ⟨k + 1, _, by omega, by rw [← hi]; congr 1; omega, by rw [downs_succ, List.map_append, hys, hdx]; rfl, hJ3, hnx.trans hk3⟩
        case measure => simp [iv]
      · gi_wp2
        refine bodyPost_ret (results_none rfl _ _ _) rfl ?_
        exact ⟨⟨_, rfl⟩, .inr ⟨_, ⟨k + 1, by omega, by rw [downs_succ, List.map_append, hys, hdx]; rfl⟩, hJx3⟩⟩
    · obtain rfl : k = len := by omega
      gi_wp2
      go_end0
      exact ⟨⟨_, rfl⟩, .inl ⟨_, hys, hJs⟩⟩

theorem downs_stops (F : Fence) (n : Nat) (h8 : F.fn 49) (hro : F.round = none) (hn : 1 ≤ n) (Bs : Nat) (la : Option Addr) (len cap : Nat) (L : List Ln) (hlen : L.length = len) (w₀ : World) (hBs : Bs < w₀.heap.size) (hc : w₀.cell? ⟨Bs, 0, none⟩ = some (.slice la len cap)) (hL : LinesAt w₀ la L) :
    SeqStopsK F n Try.prog 49 #[.pointer (some ⟨Bs, 0, none⟩)] (fun x : LnOf L => dEnc x.1) (Below w₀.heap.size) (fun ys => ys.map Subtype.val = downs L len) (fun pre => ∃ k, k ≤ len ∧ pre.map Subtype.val = downs L k) len w₀ := fun l J Jx W hW _ _ hY h0 =>
  down1s_in F n h8 hro hn l Bs w₀ la len cap L hlen hL J Jx hY W ((hW.cell (p := ⟨Bs, 0, none⟩) hBs).trans hc) hBs hW h0

set_option maxRecDepth 100000 in
set_option maxHeartbeats 2000000 in
theorem behind_in (F : Fence) (n : Nat) (h4 : F.fn 38) (h6 : F.fn 33) (h8 : F.fn 49) (hro : F.round = none) (hn : 3 ≤ n) (R : Nat) (la : Option Addr) (len cap : Nat) (L : List Ln) (hlen : L.length = len) (w : World) (hL : LinesAt w la L) (hk7 : ∀ x ∈ L, x.kind ≠ 7) (hRl : R < w.heap.size) (hR : w.cell? ⟨R, 0, none⟩ = some (.slice la len cap)) :
    CallsIn F n Try.prog 38 #[.pointer (some ⟨R, 0, none⟩)] w fun e W' => e = .returned (.slice la len cap) ∧ Below w.heap.size w W' := by
  have h1 : 1 ≤ n := by omega
  refine callsIn_of_wp_marks Try.func38 rfl h4 ?_ hro
  simp only [Try.ntmps38, List.size_toArray, List.length_cons, List.length_nil, Nat.reduceAdd, Nat.reduceSub, Array.replicate_succ, Array.replicate_zero, List.push_toArray, List.append_toArray, List.nil_append, List.cons_append]
  gi_wp2_with (gi_at_call 33; refine (down_in F (n - 1) h6 hro _ _ _ _).mono ?_; rintro e w' ⟨rfl, rfl⟩)
  have bT := Boxed.new w 94 (.pointer (some ⟨R, 0, none⟩))
  have bR := Boxed.new (w.alloc (.cells #[.pointer (some ⟨R, 0, none⟩)] 94)) 23 (.slice none 0 0)
  have bN := Boxed.new ((w.alloc (.cells #[.pointer (some ⟨R, 0, none⟩)] 94)).alloc (.cells #[.slice none 0 0] 23)) 23 (.slice la len cap)
  rw [World.size_alloc] at bR
  rw [World.size_alloc, World.size_alloc] at bN
  have bT := (bT.alloc (.cells #[.slice none 0 0] 23)).alloc (.cells #[.slice la len cap] 23)
  have bR := bR.alloc (.cells #[.slice la len cap] 23)
  have hB0 : Below w.heap.size w (((w.alloc (.cells #[.pointer (some ⟨R, 0, none⟩)] 94)).alloc (.cells #[.slice none 0 0] 23)).alloc (.cells #[.slice la len cap] 23)) := (((Below.refl _ w).alloc (Nat.le_refl _) _).alloc (by simp) _).alloc (by simp; omega) _
  have hsz : (((w.alloc (.cells #[.pointer (some ⟨R, 0, none⟩)] 94)).alloc (.cells #[.slice none 0 0] 23)).alloc (.cells #[.slice la len cap] 23)).heap.size = w.heap.size + 3 := by simp
  obtain ⟨W0, hW0⟩ : ∃ W0, ((w.alloc (.cells #[.pointer (some ⟨R, 0, none⟩)] 94)).alloc (.cells #[.slice none 0 0] 23)).alloc (.cells #[.slice la len cap] 23) = W0 := ⟨_, rfl⟩
  rw [hW0] at bT bR bN hB0 hsz ⊢
  clear hW0
  refine wpIn_rangeFunc_ownH hro h1 (gf := 49) (lb := #[.pointer (some ⟨w.heap.size + 1 + 1, 0, none⟩)]) rfl h8 (enters_of Try.func49 (by kernel_rfl) rfl)
    (downs_stops F (n - 1) h8 hro (by omega) (w.heap.size + 1 + 1) la len cap L hlen W0 (by omega) bN.cell (hL.below hB0)) belowK_t (belowK_b (Nat.le_refl _)) (Below.refl _ _) (fun _ => rfl)
    (fun pre W => (Boxed W w.heap.size 94 (.pointer (some ⟨R, 0, none⟩)) ∧ Boxed W (w.heap.size + 1) 23 (.slice none 0 0)) ∧ Below W0.heap.size W0 W)
    (fun c pre W => False)
    (OwnFrom.and (Own.from (fun s A B row hs hg hr => ⟨cellsOwn hs.1 hg hr, cellsOwn hs.2 hg hr⟩) _) (ownFrom_below (Nat.le_refl _) (Nat.le_refl _)))
    (fun _ _ _ _ _ hs _ _ => hs)
    ⟨⟨bT, bR⟩, Below.refl _ _⟩
    (fun x a' W => ∃ Bx, w.heap.size + 1 < Bx ∧ W.heap[Bx]? = some (.cells (lnCells x.1.2).toArray 34 (0, 0)) ∧ a' = { tmps := #[.pointer (some ⟨R, 0, none⟩), .pointer (some ⟨w.heap.size, 0, none⟩), .pointer (some ⟨w.heap.size + 1, 0, none⟩), .int .i64 (x.1.1 : Int), .pointer (some ⟨Bx, 0, none⟩), undef, undef, .pointer (some ⟨R, 0, none⟩), .pointer (some ⟨R, 0, none⟩), .pointer (some ⟨R, 0, none⟩), .slice la len cap, .func (.func 49) #[] #[.pointer (some ⟨w.heap.size + 1 + 1, 0, none⟩)], .int .i64 (x.1.1 : Int), .agg (lnCells x.1.2).toArray, undef, undef, undef, undef, undef, undef, undef, undef, undef, undef, undef, undef, undef, undef, undef, undef, undef, undef, undef, undef, undef, undef, undef, undef, undef, undef, undef, undef, undef, undef, undef, undef, undef, undef, undef, undef, undef, undef, undef, undef, undef, undef], defers := [] })
    (fun x a' _ X Y row hs hg hr => by obtain ⟨Bx, h1, h2, h3⟩ := hs; exact ⟨Bx, h1, cellsOwn h2 hg (fun r e => (hr r e).2), h3⟩)
    ?assign ?body ?done ?stop
  case assign =>
    rintro l pre x W K ⟨⟨bT1, bR1⟩, hB1⟩ hK
    unfold dEnc lnCells recCells
    gi_wp2
    exact hK _ _ ((KeepsOthers.alloc _ _).from _) ((Below.refl _ W).alloc hB1.size _) ⟨⟨bT1.alloc _, bR1.alloc _⟩, hB1.alloc hB1.size _⟩ ⟨W.heap.size, by have := hB1.size; omega, heap_alloc_new _ _, rfl⟩
  case body =>
    rintro l pre x a' W hl hr ⟨⟨bT1, bR1⟩, hB1⟩ ⟨Bx, hBx, bX, rfl⟩ hlt
    have hx : x.1.2.kind ≠ 7 := hk7 _ (List.mem_of_getElem? x.2)
    have c3 : W.cell? ⟨Bx, 1, none⟩ = some (.int .i64 x.1.2.kind) := by rw [cell_of_row _ _ _ _ _ _ bX]; rfl
    have hxb : (x.1.2.kind != 7) = true := by simp [hx]
    gi_wp2
    exact ⟨KeepsFrom.refl _ _, Below.refl _ _, ⟨bT1, bR1⟩, hB1⟩
  case done =>
    rintro D ys W hD _ ⟨⟨bT1, bR1⟩, hB1⟩ hK
    have c1 := bT1.cell
    have c2 := bR1.cell
    have f2 := bR1.frozen
    have hBw : Below w.heap.size w W := hB0.trans (hB1.mono (by omega))
    have cR : W.cell? ⟨R, 0, none⟩ = some (.slice la L.length cap) := by rw [hlen]; exact (hBw.cell (p := ⟨R, 0, none⟩) hRl).trans hR
    rw [hlen] at cR
    gi_wp2
    have hK' := (KeepsOthers.setCell W ⟨w.heap.size + 1, 0, none⟩ (.slice la len cap)).same D _ hK rfl
    refine ⟨by simp, .inl ⟨_, _, rfl, run_takeDeferred hK', ?_⟩⟩
    have hc5 := cell_kept (World.cell?_setCell_same' W ⟨w.heap.size + 1, 0, none⟩ (.slice la len cap) (by rw [c2]; rfl)) (grownBy_putObj' _ D (.deferred none)) (fun r e => by cases e; exact ⟨_, hK', rfl⟩)
    refine ⟨.slice la len cap, ?_, rfl, (hBw.setCell (p := ⟨w.heap.size + 1, 0, none⟩) (by simp) _).trans (belowK_b (w := w) (Nat.le_refl _) _ D _ _ (by omega) hK' rfl rfl)⟩
    simp [results, Try.f38, go_sem, hc5]
  case stop =>
    rintro D c pre W _ _ h _
    exact h.elim
theorem behind_any (R : Nat) (la : Option Addr) (len cap : Nat) (L : List Ln) (hlen : L.length = len) (w : World) (hL : LinesAt w la L) (hk7 : ∀ x ∈ L, x.kind ≠ 7) (hRl : R < w.heap.size) (hR : w.cell? ⟨R, 0, none⟩ = some (.slice la len cap)) :
    Calls Try.prog 38 #[.pointer (some ⟨R, 0, none⟩)] w fun e W' => e = .returned (.slice la len cap) ∧ Below w.heap.size w W' :=
  (callsIn_wide (n := 6)).1 (behind_in Fence.wide 6 trivial trivial trivial rfl (by omega) R la len cap L hlen w hL hk7 hRl hR)
end Go.Proofs.Ytpjppolbkdnkaaa
