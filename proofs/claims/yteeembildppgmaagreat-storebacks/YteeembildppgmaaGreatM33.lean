/- A part of it: DOldest DPass DRedo DDowns DBehind DMapT DFollow DLearn DSlib. -/
import Derived.Test.YteeembildppgmaaGreatM32
import Derived.Test.YteeembildppgmaaGreatM10
import Derived.RangeFuncSeq
import Derived.Sort.MapsRangeIn
import Derived.Sort.KeysCollected
import Derived.WalkKit
import Derived.OwnWalkIn
import Derived.TacticsInMore
import Derived.RegionIn
import Derived.LoopNIn
import Derived.LoopIn
import Derived.Shelf.SlIterI.Collect
import Derived.Test.YteeembildppgmaaGreatProg
import Derived.RangeFuncNested
import Derived.RangeFuncBox
import Derived.RangeFuncLeaves
import Derived.Shelf.Abstract
namespace Go.Proofs.YteeembildppgmaaGreat.Rd
open Go.RowKit
set_option linter.unusedVariables false
set_option linter.unusedSimpArgs false
def iv : Value → Int | .int _ q => q | _ => 0
theorem MapI.len {w : World} {b n : Nat} {f : Int → Option Int} (h : MapI w b n f) : ∃ s : Nat, s ≤ n ∧ (∀ ty, (Builtin.len_ #[169] ty #[.map (some b)]).run Tryz.prog w = .ok (.int .i64 s) w) ∧ (s = 0 → ∀ k, In64 k → f k = none) ∧ (s ≠ 0 → ∃ k, In64 k ∧ (f k).isSome = true) := by
 obtain ⟨D, h1, h2⟩ := h
 refine ⟨Maps.size D, World.ownsMap.size_le h1, fun ty => h1.len Tryz.underlying169 ty, ?_, ?_⟩
 · intro h0 k hk
   obtain ⟨es, rfl, hko⟩ := h1.keysOf
   have he : es = [] := List.length_eq_zero_iff.1 h0
   subst he
   have := (h2 k hk).1
   cases hf : f k with
   | none => rfl
   | some y => rw [hf] at this; exact absurd this (by simp [Maps.has])
 · intro h0
   obtain ⟨es, rfl, hko⟩ := h1.keysOf
   cases es with
   | nil => exact absurd rfl h0
   | cons p ps =>
     obtain ⟨v, hv⟩ := hko p (by simp)
     obtain ⟨x, _, hx, hwf⟩ := Maps.keyOf_i64 Tryz.underlying3 hv
     refine ⟨x, in64 hwf, ?_⟩
     rw [← (h2 x (in64 hwf)).1]
     simp [Maps.has, hx, Lit.sameKey]

theorem LinesAt.drop {w : World} {a : Option Addr} {L : List Ln} (h : LinesAt w a L) (k : Nat) (b o : Nat) (ha : a = some ⟨b, o, none⟩) : LinesAt w (some ⟨b, o + k * 12, none⟩) (L.drop k) := by
 refine ⟨by have := h.1; simp; omega, fun i x hx => ?_⟩
 rw [List.getElem?_drop] at hx
 obtain ⟨h1, b', o', h2, h3, h4⟩ := h.2 _ _ hx
 rw [ha] at h2
 injection h2 with h2
 injection h2 with e1 e2
 subst e1; subst e2
 refine ⟨h1, b, o + k * 12, rfl, h3, ?_⟩
 have : o + k * 12 + i * 12 = o + (k + i) * 12 := by omega
 rw [this]
 exact h4
theorem LinesAt.nil (w : World) (a : Option Addr) : LinesAt w a [] := ⟨by simp, fun i x hx => by simp at hx⟩
end Go.Proofs.YteeembildppgmaaGreat.Rd
namespace Go.Proofs.YteeembildppgmaaGreat.Rd
open Go.RowKit
set_option linter.unusedVariables false
set_option linter.unusedSimpArgs false
theorem LinesAt.ok {w : World} {a : Option Addr} {L : List Ln} (h : LinesAt w a L) : ∀ x ∈ L, x.ok := fun x hx => by
 obtain ⟨i, hi, rfl⟩ := List.mem_iff_getElem.1 hx
 exact (h.2 i _ (List.getElem?_eq_getElem hi)).1
end Go.Proofs.YteeembildppgmaaGreat.Rd
namespace Go.Proofs.YteeembildppgmaaGreat.Rd
open Go.RowKit
set_option linter.unusedVariables false
set_option linter.unusedSimpArgs false
theorem none_any (p : Int) (w : World) : Calls Tryz.prog 164 #[.int .i64 p] w fun e w' => e = .returned (.int .i64 0) ∧ Below w.heap.size w w' := by
 go_enter Tryz.func164, Tryz.ntmps164
 go_wp2
 go_ret
 exact ⟨rfl, Below.refl _ _⟩
def Ask.none : Ask where
 g := 164
 cb := #[]
 f := fun _ => 0
 held := fun _ => True
 stay := fun _ _ _ _ => trivial
 enters := fun args w => by kernel_rfl
 fin := fun p => by simp [In64]
 call := fun w p _ _ => none_any p w

structure LogAt (w : World) (lg : Sv) (L : List Ln) : Prop where
 n : lg.n = L.length
 cap : L.length ≤ lg.c
 nil : lg.a = none → L = [] ∧ lg.c = 0
 addr : ∀ a, lg.a = some a → L ≠ [] → ∃ b o, a = ⟨b, o, none⟩
 lines : LinesAt w lg.a L
theorem LogAt.below {w w' : World} {lg : Sv} {L : List Ln} (h : LogAt w lg L) (hb : Below w.heap.size w w') : LogAt w' lg L := ⟨h.n, h.cap, h.nil, h.addr, h.lines.below hb⟩
def noMap : Int → Option Int := fun _ => Option.none
end Go.Proofs.YteeembildppgmaaGreat.Rd
namespace Go.Proofs.YteeembildppgmaaGreat.Rd
open Go.RowKit Go.Shelf
set_option linter.unusedVariables false
set_option linter.unusedSimpArgs false
attribute [local go_sem] Oper.semAt_some
def Ln.zero : Ln := ⟨0, 0, 0, 0, 0, 0, 0, 0, ⟨none, 0, 0⟩, ⟨none, 0, 0⟩, ⟨none, 0, 0⟩, ⟨none, 0, 0⟩⟩
def downAt (L : List Ln) (j : Nat) : Nat × Ln := (L.length - 1 - j, L[L.length - 1 - j]?.getD Ln.zero)
def downs (L : List Ln) (k : Nat) : List (Nat × Ln) := (List.range k).map (downAt L)
theorem downs_succ (L : List Ln) (k : Nat) : downs L (k + 1) = downs L k ++ [downAt L k] := by simp [downs, List.range_succ]
theorem downs_length (L : List Ln) (k : Nat) : (downs L k).length = k := by simp [downs]
def dEnc (x : Nat × Ln) : Array Value := #[.int .i64 (x.1 : Int), .agg (lnCells x.2).toArray]

set_option maxHeartbeats 1000000 in
theorem down_in (F : Fence) (n : Nat) (h6 : F.fn 178) (hro : F.round = none) (a : Option Addr) (len cap : Nat) (w : World) :
 CallsIn F n Tryz.prog 178 #[.slice a len cap] w fun e w' => e = .returned (.func (.func 197) #[] #[.pointer (some ⟨w.heap.size, 0, none⟩)]) ∧ w' = w.alloc (.cells #[.slice a len cap] 85) := by
 refine callsIn_of_wp Tryz.func178 rfl h6 ?_ hro
 simp only [Tryz.ntmps178, List.size_toArray, List.length_cons, List.length_nil, Nat.reduceAdd, Nat.reduceSub, Array.replicate_succ, Array.replicate_zero, List.push_toArray, List.append_toArray, List.nil_append, List.cons_append]
 gi_wp2
 go_ret
 exact ⟨rfl, rfl⟩

theorem cellsOwn {X Y : World} {row : Option Nat} {B : Nat} {c : Array Value} {t : TypeId} {fr : Nat × Nat} (h : X.heap[B]? = some (.cells c t fr)) (hg : X.grownBy Y row) (hr : ∀ r, row = some r → ∃ o : Obj, X.heap[r]? = some o ∧ o.isCells = false) : Y.heap[B]? = some (.cells c t fr) :=
 (hg.block B (Array.getElem?_eq_some_iff.1 h).1 (fun e => by obtain ⟨o, ho, hc⟩ := hr B e.symm; rw [h] at ho; cases ho; cases hc)).trans h

end Go.Proofs.YteeembildppgmaaGreat.Rd
namespace Go.Proofs.YteeembildppgmaaGreat.Rd
open Go.RowKit Go.Shelf
set_option linter.unusedVariables false
set_option linter.unusedSimpArgs false
attribute [local go_sem] Oper.semAt_some
abbrev LnOf (L : List Ln) := { p : Nat × Ln // L[p.1]? = some p.2 }
set_option maxRecDepth 100000 in
set_option maxHeartbeats 2000000 in
theorem down1s_in (F : Fence) (n : Nat) (h8 : F.fn 197) (hro : F.round = none) (hn : 1 ≤ n) (l Bs : Nat) (w₀ : World) (la : Option Addr) (len cap : Nat) (L : List Ln) (hlen : L.length = len) (hL : LinesAt w₀ la L) (J Jx : List (LnOf L) → World → Prop)
 (hY : ∀ pre x W, J pre W → pre.length < len → YieldAt F (n - 1) Tryz.prog l (dEnc x.1) W fun e W' =>
   (e = .returned (.bool true) ∧ J (pre ++ [x]) W' ∧ Below w₀.heap.size W W') ∨ (e = .returned (.bool false) ∧ Jx (pre ++ [x]) W'))
 (W : World) (hBs : W.cell? ⟨Bs, 0, none⟩ = some (.slice la len cap)) (hKs : Bs < w₀.heap.size) (hW : Below w₀.heap.size w₀ W) (h0 : J [] W) :
 CallsIn F n Tryz.prog 197 #[.func (.yield l) #[] #[], .pointer (some ⟨Bs, 0, none⟩)] W fun e W' => (∃ v, e = .returned v) ∧
  ((∃ ys, ys.map Subtype.val = downs L len ∧ J ys W') ∨ (∃ pre, (∃ k, k ≤ len ∧ pre.map Subtype.val = downs L k) ∧ Jx pre W')) := by
 have hl1 : len ≤ 1000000 := by rw [← hlen]; exact hL.1
 refine callsIn_of_wp Tryz.func197 rfl h8 ?_ hro
 simp only [Tryz.ntmps197, List.size_toArray, List.length_cons, List.length_nil, Nat.reduceAdd, Nat.reduceSub, Array.replicate_succ, Array.replicate_zero, List.push_toArray, List.append_toArray, List.nil_append, List.cons_append]
 gi_wp2
 gi_loopw [3] (fun i wr => ∃ (k : Nat) (ys : List (LnOf L)), k ≤ len ∧ i = .int .i64 ((len : Int) - 1 - k) ∧ ys.map Subtype.val = downs L k ∧ J ys wr ∧ Below w₀.heap.size W wr)
  (fun i _ => (iv i + 1).toNat)
 case atStart => exact ⟨0, [], Nat.zero_le _, by simp, rfl, h0, Below.refl _ _⟩
 case round =>
  obtain ⟨k, ys, hk, rfl, hys, hJs, hnx⟩ := hrel
  have hBs' : wr.cell? ⟨Bs, 0, none⟩ = some (.slice la len cap) := (hnx.cell (p := ⟨Bs, 0, none⟩) hKs).trans hBs
  by_cases hlt : k < len
  · obtain ⟨i, hi⟩ : ∃ i : Nat, (len : Int) - 1 - k = (i : Int) := ⟨len - 1 - k, by omega⟩
    have hi' : L.length - 1 - k = i := by omega
    have hil : i < len := by omega
    rw [hi]
    obtain ⟨x, hx⟩ : ∃ x, L[i]? = some x := ⟨_, List.getElem?_eq_getElem (by omega)⟩
    have hdx : downAt L k = (i, x) := by unfold downAt; rw [hi', hx]; rfl
    obtain ⟨hok, b, o, hab, hbl, hrg⟩ := hL.2 i x hx
    subst hab
    have HRG : Hid (wr.rangeAt b (o + i * 12) (lnCells x)) := fun q v hv => ((hW.trans hnx).cell (p := ⟨b, o + i * 12 + q, none⟩) hbl).trans (hrg q v hv)
    have e0 : wr.cell? ⟨b, o + i * 12, none⟩ = some (.int .i64 x.lsn) := HRG.out 0 _ rfl
    have e1 : wr.cell? ⟨b, o + i * 12 + 1, none⟩ = some (.int .i64 x.kind) := HRG.out 1 _ rfl
    have e2 : wr.cell? ⟨b, o + i * 12 + 2, none⟩ = some (.int .i64 x.txn) := HRG.out 2 _ rfl
    have e3 : wr.cell? ⟨b, o + i * 12 + 3, none⟩ = some (.int .i64 x.prev) := HRG.out 3 _ rfl
    have e4 : wr.cell? ⟨b, o + i * 12 + 4, none⟩ = some (.int .i64 x.next) := HRG.out 4 _ rfl
    have e5 : wr.cell? ⟨b, o + i * 12 + 5, none⟩ = some (.int .i64 x.page) := HRG.out 5 _ rfl
    have e6 : wr.cell? ⟨b, o + i * 12 + 6, none⟩ = some (.int .i64 x.off) := HRG.out 6 _ rfl
    have e7 : wr.cell? ⟨b, o + i * 12 + 7, none⟩ = some (.slice x.sb.a x.sb.n x.sb.c) := HRG.out 7 _ rfl
    have e8 : wr.cell? ⟨b, o + i * 12 + 8, none⟩ = some (.slice x.sa.a x.sa.n x.sa.c) := HRG.out 8 _ rfl
    have e9 : wr.cell? ⟨b, o + i * 12 + 9, none⟩ = some (.slice x.st.a x.st.n x.st.c) := HRG.out 9 _ rfl
    have e10 : wr.cell? ⟨b, o + i * 12 + 10, none⟩ = some (.slice x.sd.a x.sd.n x.sd.c) := HRG.out 10 _ rfl
    have e11 : wr.cell? ⟨b, o + i * 12 + 11, none⟩ = some (.int .i64 x.count) := HRG.out 11 _ rfl
    obtain ⟨fn, tmps, assign, body, hy, hR⟩ := hY ys ⟨(i, x), hx⟩ wr hJs (by have := congrArg List.length hys; rw [List.length_map, downs_length] at this; omega)
    unfold dEnc lnCells recCells at hy
    dsimp only at hy
    gi_wp2
    refine hR.mono ?_
    rintro e W3 (⟨rfl, hJ3, hk3⟩ | ⟨rfl, hJx3⟩)
    · gi_wp2
      go_roundw
      case rel => exact ⟨k + 1, _, by omega, by rw [← hi]; congr 1; omega, by rw [downs_succ, List.map_append, hys, hdx]; rfl, hJ3, hnx.trans hk3⟩
      case measure => simp [iv]
    · gi_wp2
      refine bodyPost_ret (results_none rfl _ _ _) rfl ?_
      exact ⟨⟨_, rfl⟩, .inr ⟨_, ⟨k + 1, by omega, by rw [downs_succ, List.map_append, hys, hdx]; rfl⟩, hJx3⟩⟩
  · obtain rfl : k = len := by omega
    gi_wp2
    go_end0
    exact ⟨⟨_, rfl⟩, .inl ⟨_, hys, hJs⟩⟩

theorem downs_stops (F : Fence) (n : Nat) (h8 : F.fn 197) (hro : F.round = none) (hn : 1 ≤ n) (Bs : Nat) (la : Option Addr) (len cap : Nat) (L : List Ln) (hlen : L.length = len) (w₀ : World) (hBs : Bs < w₀.heap.size) (hc : w₀.cell? ⟨Bs, 0, none⟩ = some (.slice la len cap)) (hL : LinesAt w₀ la L) :
 SeqStopsK F n Tryz.prog 197 #[.pointer (some ⟨Bs, 0, none⟩)] (fun x : LnOf L => dEnc x.1) (Below w₀.heap.size) (fun ys => ys.map Subtype.val = downs L len) (fun pre => ∃ k, k ≤ len ∧ pre.map Subtype.val = downs L k) len w₀ := fun l J Jx W hW _ _ hY h0 =>
 down1s_in F n h8 hro hn l Bs w₀ la len cap L hlen hL J Jx hY W ((hW.cell (p := ⟨Bs, 0, none⟩) hBs).trans hc) hBs hW h0

set_option maxRecDepth 100000 in
set_option maxHeartbeats 2000000 in
theorem behind_in (F : Fence) (n : Nat) (h4 : F.fn 156) (h6 : F.fn 178) (h8 : F.fn 197) (hro : F.round = none) (hn : 3 ≤ n) (R : Nat) (la : Option Addr) (len cap : Nat) (L : List Ln) (hlen : L.length = len) (w : World) (hL : LinesAt w la L) (hk7 : ∀ x ∈ L, x.kind ≠ 7) (hRl : R < w.heap.size) (hR : w.cell? ⟨R, 0, none⟩ = some (.slice la len cap)) :
 CallsIn F n Tryz.prog 156 #[.pointer (some ⟨R, 0, none⟩)] w fun e W' => e = .returned (.slice la len cap) ∧ Below w.heap.size w W' := by
 have h1 : 1 ≤ n := by omega
 refine callsIn_of_wp_marks Tryz.func156 rfl h4 ?_ hro
 simp only [Tryz.ntmps156, List.size_toArray, List.length_cons, List.length_nil, Nat.reduceAdd, Nat.reduceSub, Array.replicate_succ, Array.replicate_zero, List.push_toArray, List.append_toArray, List.nil_append, List.cons_append]
 gi_wp2_with (gi_at_call 178; refine (down_in F (n - 1) h6 hro _ _ _ _).mono ?_; rintro e w' ⟨rfl, rfl⟩)
 have bT := Boxed.new w 215 (.pointer (some ⟨R, 0, none⟩))
 have bR := Boxed.new (w.alloc (.cells #[.pointer (some ⟨R, 0, none⟩)] 215)) 85 (.slice none 0 0)
 have bN := Boxed.new ((w.alloc (.cells #[.pointer (some ⟨R, 0, none⟩)] 215)).alloc (.cells #[.slice none 0 0] 85)) 85 (.slice la len cap)
 rw [World.size_alloc] at bR
 rw [World.size_alloc, World.size_alloc] at bN
 have bT := (bT.alloc (.cells #[.slice none 0 0] 85)).alloc (.cells #[.slice la len cap] 85)
 have bR := bR.alloc (.cells #[.slice la len cap] 85)
 have hB0 : Below w.heap.size w (((w.alloc (.cells #[.pointer (some ⟨R, 0, none⟩)] 215)).alloc (.cells #[.slice none 0 0] 85)).alloc (.cells #[.slice la len cap] 85)) := (((Below.refl _ w).alloc (Nat.le_refl _) _).alloc (by simp) _).alloc (by simp; omega) _
 have hsz : (((w.alloc (.cells #[.pointer (some ⟨R, 0, none⟩)] 215)).alloc (.cells #[.slice none 0 0] 85)).alloc (.cells #[.slice la len cap] 85)).heap.size = w.heap.size + 3 := by simp
 obtain ⟨W0, hW0⟩ : ∃ W0, ((w.alloc (.cells #[.pointer (some ⟨R, 0, none⟩)] 215)).alloc (.cells #[.slice none 0 0] 85)).alloc (.cells #[.slice la len cap] 85) = W0 := ⟨_, rfl⟩
 rw [hW0] at bT bR bN hB0 hsz ⊢
 clear hW0
 refine wpIn_rangeFunc_ownH hro h1 (gf := 197) (lb := #[.pointer (some ⟨w.heap.size + 1 + 1, 0, none⟩)]) rfl h8 (enters_of Tryz.func197 (by kernel_rfl) rfl)
  (downs_stops F (n - 1) h8 hro (by omega) (w.heap.size + 1 + 1) la len cap L hlen W0 (by omega) bN.cell (hL.below hB0)) belowK_t (belowK_b (Nat.le_refl _)) (Below.refl _ _) (fun _ => rfl)
  (fun pre W => (Boxed W w.heap.size 215 (.pointer (some ⟨R, 0, none⟩)) ∧ Boxed W (w.heap.size + 1) 85 (.slice none 0 0)) ∧ Below W0.heap.size W0 W)
  (fun c pre W => False)
  (OwnFrom.and (Own.from (fun s A B row hs hg hr => ⟨cellsOwn hs.1 hg hr, cellsOwn hs.2 hg hr⟩) _) (ownFrom_below (Nat.le_refl _) (Nat.le_refl _)))
  (fun _ _ _ _ _ hs _ _ => hs)
  ⟨⟨bT, bR⟩, Below.refl _ _⟩
  (fun x a' W => ∃ Bx, w.heap.size + 1 < Bx ∧ W.heap[Bx]? = some (.cells (lnCells x.1.2).toArray 88 (0, 0)) ∧ a' = { tmps := #[.pointer (some ⟨R, 0, none⟩), .pointer (some ⟨w.heap.size, 0, none⟩), .pointer (some ⟨w.heap.size + 1, 0, none⟩), .int .i64 (x.1.1 : Int), .pointer (some ⟨Bx, 0, none⟩), undef, undef, .pointer (some ⟨R, 0, none⟩), .pointer (some ⟨R, 0, none⟩), .pointer (some ⟨R, 0, none⟩), .slice la len cap, .func (.func 197) #[] #[.pointer (some ⟨w.heap.size + 1 + 1, 0, none⟩)], .int .i64 (x.1.1 : Int), .agg (lnCells x.1.2).toArray, undef, undef, undef, undef, undef, undef, undef, undef, undef, undef, undef, undef, undef, undef, undef, undef, undef, undef, undef, undef, undef, undef, undef, undef, undef, undef, undef, undef, undef, undef, undef, undef, undef, undef, undef, undef, undef, undef, undef, undef, undef, undef], defers := [] })
  (fun x a' _ X Y row hs hg hr => by obtain ⟨Bx, h1, h2, h3⟩ := hs; exact ⟨Bx, h1, cellsOwn h2 hg (fun r e => (hr r e).2), h3⟩)
  ?assign ?body ?done ?stop
 case assign =>
  rintro l pre x W K ⟨⟨bT1, bR1⟩, hB1⟩ hK
  unfold dEnc lnCells recCells
  gi_wp2
  exact hK _ _ ((KeepsOthers.alloc _ _).from _) ((Below.refl _ W).alloc hB1.size _) ⟨⟨bT1.alloc _, bR1.alloc _⟩, hB1.alloc hB1.size _⟩ ⟨W.heap.size, by have := hB1.size; omega, heap_alloc_new _ _, rfl⟩
 case body =>
  rintro l pre x a' W hl hr ⟨⟨bT1, bR1⟩, hB1⟩ ⟨Bx, hBx, bX, rfl⟩ hlt
  have hx : x.1.2.kind ≠ 7 := hk7 _ (List.mem_of_getElem? x.2)
  have c3 : W.cell? ⟨Bx, 1, none⟩ = some (.int .i64 x.1.2.kind) := by rw [cell_of_row _ _ _ _ _ _ bX]; rfl
  have hxb : (x.1.2.kind != 7) = true := by simp [hx]
  gi_wp2
  exact ⟨KeepsFrom.refl _ _, Below.refl _ _, ⟨bT1, bR1⟩, hB1⟩
 case done =>
  rintro D ys W hD _ ⟨⟨bT1, bR1⟩, hB1⟩ hK
  have c1 := bT1.cell
  have c2 := bR1.cell
  have f2 := bR1.frozen
  have hBw : Below w.heap.size w W := hB0.trans (hB1.mono (by omega))
  have cR : W.cell? ⟨R, 0, none⟩ = some (.slice la L.length cap) := by rw [hlen]; exact (hBw.cell (p := ⟨R, 0, none⟩) hRl).trans hR
  rw [hlen] at cR
  gi_wp2
  have hK' := (KeepsOthers.setCell W ⟨w.heap.size + 1, 0, none⟩ (.slice la len cap)).same D _ hK rfl
  refine ⟨by simp, .inl ⟨_, _, rfl, run_takeDeferred hK', ?_⟩⟩
  have hc5 := cell_kept (World.cell?_setCell_same' W ⟨w.heap.size + 1, 0, none⟩ (.slice la len cap) (by rw [c2]; rfl)) (grownBy_putObj' _ D (.deferred none)) (fun r e => by cases e; exact ⟨_, hK', rfl⟩)
  refine ⟨.slice la len cap, ?_, rfl, (hBw.setCell (p := ⟨w.heap.size + 1, 0, none⟩) (by simp) _).trans (belowK_b (w := w) (Nat.le_refl _) _ D _ _ (by omega) hK' rfl rfl)⟩
  simp [results, Tryz.f38, go_sem, hc5]
 case stop =>
  rintro D c pre W _ _ h _
  exact h.elim
theorem behind_any (R : Nat) (la : Option Addr) (len cap : Nat) (L : List Ln) (hlen : L.length = len) (w : World) (hL : LinesAt w la L) (hk7 : ∀ x ∈ L, x.kind ≠ 7) (hRl : R < w.heap.size) (hR : w.cell? ⟨R, 0, none⟩ = some (.slice la len cap)) :
 Calls Tryz.prog 156 #[.pointer (some ⟨R, 0, none⟩)] w fun e W' => e = .returned (.slice la len cap) ∧ Below w.heap.size w W' :=
 (callsIn_wide (n := 6)).1 (behind_in Fence.wide 6 trivial trivial trivial rfl (by omega) R la len cap L hlen w hL hk7 hRl hR)
end Go.Proofs.YteeembildppgmaaGreat.Rd
namespace Go.Proofs.YteeembildppgmaaGreat.Rd
open Go.RowKit Go.WideAt
set_option linter.unusedVariables false
set_option linter.unusedSimpArgs false
structure Tx where
 id : Int
 last : Int
 st : Int
def Tx.zero : Tx := ⟨0, 0, 0⟩
def txCells (x : Tx) : List Value := [.int .i64 x.id, .int .i64 x.last, .int .i64 x.st]
def rTl : List Value → Option (DataW Tx × List MemPlace)
 | [.int .i64 x, .int .i64 y, .int .i64 z] => some (.held ⟨x, y, z⟩, [])
 | _ => none
def rT : Value → Option (DataW Tx × List MemPlace)
 | .agg a => rTl a.toList
 | _ => none
theorem rT_mk (x : Tx) : rT (.agg (txCells x).toArray) = some (.held x, []) := rfl
theorem rT_inv {v : Value} {d : DataW Tx} {ps : List MemPlace} (h : rT v = some (d, ps)) : ∃ x : Tx, v = .agg (txCells x).toArray ∧ d = .held x := by
 unfold rT at h
 split at h
 · rename_i a
   unfold rTl at h
   split at h
   · rename_i x y z heq
     refine ⟨⟨x, y, z⟩, ?_, ?_⟩
     · congr 1
       exact Array.toList_inj.1 heq
     · injection h with h; exact (congrArg Prod.fst h).symm
   · cases h
 · cases h
def MapT (w : World) (b n : Nat) (f : Int → Option Tx) : Prop :=
 ∃ D : DataW Tx, w.ownsMap Tryz.prog 3 rT b n D ∧ ∀ k, In64 k → Maps.has D (.int .i64 k) = (f k).isSome ∧ D.atKey (.int .i64 k) (.held Tx.zero) = .held ((f k).getD Tx.zero)
def updT (f : Int → Option Tx) (k : Int) (v : Tx) : Int → Option Tx := fun x => if x = k then some v else f x
def delT (f : Int → Option Tx) (k : Int) : Int → Option Tx := fun x => if x = k then none else f x
section
variable {w w' : World} {b n : Nat} {f : Int → Option Tx}
theorem MapT.made (w : World) : MapT (w.alloc (.map #[] 0)) w.heap.size 0 (fun _ => none) :=
 ⟨.map [], World.ownsMap_made _ _ _ _, fun k hk => ⟨rfl, rfl⟩⟩
theorem MapT.lt (h : MapT w b n f) : b < w.heap.size := let ⟨_, a, _⟩ := h; a.lt
theorem MapT.stay (h : MapT w b n f) (hb : w'.heap[b]? = w.heap[b]?) : MapT w' b n f := by
 obtain ⟨D, ⟨es, clock, h1, h2⟩, h3⟩ := h
 exact ⟨D, ⟨es, clock, hb.trans h1, h2⟩, h3⟩
theorem MapT.store (h : MapT w b n f) (hn : n < 1000000000) {k : Int} (v : Tx) (hk : In64 k) : ∃ w', (Instr.mapUpdate 193 (.map (some b)) (.int .i64 k) (.agg (txCells v).toArray)).run Tryz.prog w = .ok () w' ∧ MapT w' b (n + 1) (updT f k v) ∧ w.grownBy w' (some b) := by
 obtain ⟨D, h1, h2⟩ := h
 obtain ⟨w', r1, r2, r3⟩ := h1.update keyedI Tryz.underlying193 (by simp only [maxLen]; omega) (keyI hk) (rT_mk v)
 refine ⟨w', r1, ⟨_, r2, fun x hx => ?_⟩, r3⟩
 unfold updT
 by_cases e : x = k
 · subst e
   rw [if_pos rfl]
   exact ⟨Maps.has_put_same h1.isMap (kl_int x) _, Maps.atKey_put_same h1.isMap (kl_int x) _ _⟩
 · rw [if_neg e]
   have hne : Lit.int .i64 x ≠ Lit.int .i64 k := fun h => e (by injection h)
   obtain ⟨a1, a2⟩ := h2 x hx
   exact ⟨by rw [Maps.has_put_other hne]; exact a1, by rw [Maps.atKey_put_other hne]; exact a2⟩
theorem MapT.len (h : MapT w b n f) : ∃ s : Nat, s ≤ n ∧ (∀ ty, (Builtin.len_ #[193] ty #[.map (some b)]).run Tryz.prog w = .ok (.int .i64 s) w) := by
 obtain ⟨D, h1, h2⟩ := h
 exact ⟨Maps.size D, World.ownsMap.size_le h1, fun ty => h1.len Tryz.underlying193 ty⟩
end
end Go.Proofs.YteeembildppgmaaGreat.Rd
namespace Go.Proofs.YteeembildppgmaaGreat.Rd
open Go.RowKit
set_option linter.unusedVariables false
set_option linter.unusedSimpArgs false
structure AnaIs (w0 w : World) (R bt bd n m : Nat) (lg : Sv) (T : Int → Option Tx) (F : Int → Option Int) (C : Int) : Prop where
 head : w.heap[R]? = some (.cells #[.slice lg.a lg.n lg.c, .map (some bt), .map (some bd), .int .i64 C, .nilFunc, .map none, .slice none 0 0, .slice none 0 0, .slice none 0 0] 197 (0, 0))
 mt : MapT w bt n T
 md : MapI w bd m F
 below : Below w0.heap.size w0 w
 r0 : w0.heap.size ≤ R
 t0 : w0.heap.size ≤ bt
 d0 : w0.heap.size ≤ bd
 n1 : R ≠ bt
 n2 : R ≠ bd
 n3 : bt ≠ bd
section
variable {w0 w w' : World} {R bt bd n m : Nat} {lg : Sv} {T : Int → Option Tx} {F : Int → Option Int} {C : Int}
theorem AnaIs.c0 (x : AnaIs w0 w R bt bd n m lg T F C) : w.cell? ⟨R, 0, none⟩ = some (.slice lg.a lg.n lg.c) := by rw [cell_of_row w R 0 _ _ _ x.head]; rfl
theorem AnaIs.c1 (x : AnaIs w0 w R bt bd n m lg T F C) : w.cell? ⟨R, 1, none⟩ = some (.map (some bt)) := by rw [cell_of_row w R 1 _ _ _ x.head]; rfl
theorem AnaIs.c2 (x : AnaIs w0 w R bt bd n m lg T F C) : w.cell? ⟨R, 2, none⟩ = some (.map (some bd)) := by rw [cell_of_row w R 2 _ _ _ x.head]; rfl
theorem AnaIs.c3 (x : AnaIs w0 w R bt bd n m lg T F C) : w.cell? ⟨R, 3, none⟩ = some (.int .i64 C) := by rw [cell_of_row w R 3 _ _ _ x.head]; rfl
theorem AnaIs.f3 (x : AnaIs w0 w R bt bd n m lg T F C) : w.frozen? ⟨R, 3, none⟩ = false := frozen_of_row _ _ _ _ _ x.head
theorem AnaIs.lt (x : AnaIs w0 w R bt bd n m lg T F C) : R < w.heap.size := (Array.getElem?_eq_some_iff.1 x.head).1
theorem AnaIs.stayD (x : AnaIs w0 w R bt bd n m lg T F C) (hb : Below w.heap.size w w') : AnaIs w0 w' R bt bd n m lg T F C :=
 { x with head := (hb.block R x.lt).trans x.head, mt := x.mt.stay (hb.block bt x.mt.lt), md := x.md.stay (hb.block bd x.md.lt), below := x.below.trans (hb.mono x.below.size) }
theorem AnaIs.count (x : AnaIs w0 w R bt bd n m lg T F C) (C' : Int) : AnaIs w0 (w.setCell ⟨R, 3, none⟩ (.int .i64 C')) R bt bd n m lg T F C' :=
 { x with
   head := heap_setCell_same w R 3 _ 197 (.int .i64 C') x.head
   mt := x.mt.stay (heap_setCell_other _ _ _ _ (by simpa using fun e => x.n1 e.symm))
   md := x.md.stay (heap_setCell_other _ _ _ _ (by simpa using fun e => x.n2 e.symm))
   below := x.below.setCell (p := ⟨R, 3, none⟩) x.r0 _ }
theorem MapT.drop {b : Nat} (h : MapT w b n T) {k : Int} (hk : In64 k) (ty : TypeId) : ∃ w', (Builtin.delete_ #[193, 3] ty #[.map (some b), .int .i64 k]).run Tryz.prog w = .ok (.tuple #[]) w' ∧ MapT w' b n (delT T k) ∧ w.grownBy w' (some b) := by
 obtain ⟨D, h1, h2⟩ := h
 obtain ⟨w', r1, r2, r3⟩ := h1.drop keyedI Tryz.underlying193 (keyI hk) ty
 refine ⟨w', r1, ⟨_, r2, fun x hx => ?_⟩, r3.grown⟩
 unfold delT
 by_cases e : x = k
 · subst e
   rw [if_pos rfl]
   exact ⟨Maps.has_del_same, Maps.atKey_del_same _⟩
 · rw [if_neg e]
   have hne : Lit.int .i64 x ≠ Lit.int .i64 k := fun h => e (by injection h)
   obtain ⟨a1, a2⟩ := h2 x hx
   exact ⟨by rw [Maps.has_del_other hne]; exact a1, by rw [Maps.atKey_del_other hne]; exact a2⟩
end
end Go.Proofs.YteeembildppgmaaGreat.Rd
namespace Go.Proofs.YteeembildppgmaaGreat.Rd
open Go.RowKit
set_option linter.unusedVariables false
set_option linter.unusedSimpArgs false
structure An where
 T : Int → Option Tx
 F : Int → Option Int
 C : Int
section
variable {w0 w w' : World} {R bt bd n m : Nat} {lg : Sv} {T : Int → Option Tx} {F : Int → Option Int} {C : Int}
end
end Go.Proofs.YteeembildppgmaaGreat.Rd
namespace Go.Proofs
open Go.Shelf
set_option maxRecDepth 100000
def Tryz.sortT_ren : Go.Shelf.Ren := ⟨fun | 6 => 162 | 15 => 147 | 14 => 190 | 28 => 176 | 29 => 177 | 20 => 203 | 21 => 204 | 22 => 205 | 23 => 206 | 24 => 207 | 25 => 208 | 26 => 209 | 27 => 210 | 46 => 212 | 47 => 193 | 48 => 194 | 49 => 213 | 50 => 214 | 57 => 215 | n => n, fun | 22 => 66 | 24 => 140 | 25 => 204 | 3 => 3 | 39 => 188 | 0 => 0 | 53 => 234 | 55 => 177 | 4 => 4 | 46 => 228 | 45 => 227 | 50 => 160 | 5 => 5 | 9 => 9 | 66 => 254 | 70 => 159 | 76 => 273 | 77 => 44 | n => n, fun | n => n⟩
theorem Tryz.sortT : Go.Proofs.SlLaysF0.n6 Tryz.prog Tryz.sortT_ren := {
 mixed := by kernel_rfl
 f6 := ⟨Tryz.f162.name, by decide, Tryz.func162.trans (congrArg some (by kernel_rfl))⟩
 f14 := ⟨Tryz.f190.name, by decide, Tryz.func190.trans (congrArg some (by kernel_rfl))⟩
 f15 := Tryz.func147.trans (congrArg some (by kernel_rfl))
 f20 := ⟨Tryz.f203.name, by decide, Tryz.func203.trans (congrArg some (by kernel_rfl))⟩
 f21 := ⟨Tryz.f204.name, by decide, Tryz.func204.trans (congrArg some (by kernel_rfl))⟩
 f22 := ⟨Tryz.f205.name, by decide, Tryz.func205.trans (congrArg some (by kernel_rfl))⟩
 f23 := ⟨Tryz.f206.name, by decide, Tryz.func206.trans (congrArg some (by kernel_rfl))⟩
 f24 := ⟨Tryz.f207.name, by decide, Tryz.func207.trans (congrArg some (by kernel_rfl))⟩
 f25 := ⟨Tryz.f208.name, by decide, Tryz.func208.trans (congrArg some (by kernel_rfl))⟩
 f26 := ⟨Tryz.f209.name, by decide, Tryz.func209.trans (congrArg some (by kernel_rfl))⟩
 f27 := ⟨Tryz.f210.name, by decide, Tryz.func210.trans (congrArg some (by kernel_rfl))⟩
 f28 := Tryz.func176.trans (congrArg some (by kernel_rfl))
 f29 := Tryz.func177.trans (congrArg some (by kernel_rfl))
 f46 := ⟨Tryz.f212.name, by decide, Tryz.func212.trans (congrArg some (by kernel_rfl))⟩
 f47 := Tryz.func193.trans (congrArg some (by kernel_rfl))
 f48 := Tryz.func194.trans (congrArg some (by kernel_rfl))
 f49 := ⟨Tryz.f213.name, by decide, Tryz.func213.trans (congrArg some (by kernel_rfl))⟩
 f50 := ⟨Tryz.f214.name, by decide, Tryz.func214.trans (congrArg some (by kernel_rfl))⟩
 f57 := ⟨Tryz.f215.name, by decide, Tryz.func215.trans (congrArg some (by kernel_rfl))⟩
 t0 := Tryz.underlying0
 a0 := Tryz.isAgg0
 z0 := Tryz.sizeOf0
 v0 := Tryz.zeroValue0
 t3 := Tryz.underlying3
 a3 := Tryz.isAgg3
 z3 := Tryz.sizeOf3
 v3 := Tryz.zeroValue3
 t4 := Tryz.underlying4
 a4 := Tryz.isAgg4
 z4 := Tryz.sizeOf4
 v4 := Tryz.zeroValue4
 t5 := Tryz.underlying5
 a5 := Tryz.isAgg5
 z5 := Tryz.sizeOf5
 v5 := Tryz.zeroValue5
 t9 := Tryz.underlying9
 a9 := Tryz.isAgg9
 z9 := Tryz.sizeOf9
 v9 := Tryz.zeroValue9
 t22 := Tryz.underlying66
 a22 := Tryz.isAgg66
 z22 := Tryz.sizeOf66
 v22 := Tryz.zeroValue66
 t25 := Tryz.underlying204
 a25 := Tryz.isAgg204
 z25 := Tryz.sizeOf204
 v25 := Tryz.zeroValue204
 t39 := Tryz.underlying188
 a39 := Tryz.isAgg188
 z39 := Tryz.sizeOf188
 v39 := Tryz.zeroValue188
 t45 := Tryz.underlying227
 a45 := Tryz.isAgg227
 z45 := Tryz.sizeOf227
 v45 := Tryz.zeroValue227
 t46 := Tryz.underlying228
 a46 := Tryz.isAgg228
 z46 := Tryz.sizeOf228
 v46 := Tryz.zeroValue228
 t50 := Tryz.underlying160
 a50 := Tryz.isAgg160
 z50 := Tryz.sizeOf160
 v50 := Tryz.zeroValue160
 t53 := Tryz.underlying234
 a53 := Tryz.isAgg234
 z53 := Tryz.sizeOf234
 v53 := Tryz.zeroValue234
 t55 := Tryz.underlying177
 a55 := Tryz.isAgg177
 z55 := Tryz.sizeOf177
 v55 := Tryz.zeroValue177
 t66 := Tryz.underlying254
 a66 := Tryz.isAgg254
 z66 := Tryz.sizeOf254
 v66 := Tryz.zeroValue254
 t70 := Tryz.underlying159
 a70 := Tryz.isAgg159
 z70 := Tryz.sizeOf159
 v70 := Tryz.zeroValue159
 t76 := Tryz.underlying273
 a76 := Tryz.isAgg273
 z76 := Tryz.sizeOf273
 v76 := Tryz.zeroValue273
 t77 := Tryz.underlying44
 a77 := Tryz.isAgg44
 z77 := Tryz.sizeOf44
 v77 := Tryz.zeroValue44 }
end Go.Proofs
