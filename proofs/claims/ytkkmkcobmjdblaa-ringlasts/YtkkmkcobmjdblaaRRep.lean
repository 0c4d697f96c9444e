/- How a ring lies in memory: 'Held' (a slice of bytes that is owned, from whatever offset), 'RgAt'; the laws of the small methods. -/
import Derived.Test.YtkkmkcobmjdblaaRNum
import Derived.Deep.AppendSrc
namespace Go.Proofs.Ytkkmkcobmjdblaa
open Go.RowKit
set_option linter.unusedVariables false
set_option linter.unusedSimpArgs false

/-- v reads as the bytes bs. -/
def Sl (w : World) (v : Value) (bs : List UInt8) : Prop :=
  (∃ c, v = .slice none 0 c ∧ bs = []) ∨ ∃ a c, v = .slice (some a) bs.length c ∧ ∀ j u, (secCells bs)[j]? = some u → w.cell? (a.add j) = some u

/-- v is a slice that may be appended to, and reads as hs. -/
def Held (w : World) (v : Value) (hs : List UInt8) : Prop :=
  (v = .slice none 0 0 ∧ hs = []) ∨ ∃ g o c, v = .slice (some ⟨g, o, none⟩) hs.length c ∧ hs.length ≤ c ∧ c ≤ maxLen ∧ w.there g o c ∧ w.rangeAt g o (secCells hs) ∧ g < w.heap.size

theorem Held.len {w : World} {v : Value} {hs : List UInt8} (h : Held w v hs) : ∃ ao c, v = .slice ao hs.length c := by
  rcases h with ⟨rfl, rfl⟩ | ⟨g, o, c, rfl, _⟩
  · exact ⟨_, _, rfl⟩
  · exact ⟨_, _, rfl⟩
theorem Held.lt {w : World} {v : Value} {hs : List UInt8} (h : Held w v hs) : ∀ k, v.ownBlock = some k → k < w.heap.size := by
  rcases h with ⟨rfl, rfl⟩ | ⟨g, o, c, rfl, _, _, _, _, hg⟩
  · intro k hk; simp [Value.ownBlock] at hk
  · intro k hk
    have : g = k := by simpa [Value.ownBlock] using hk
    omega
theorem Held.stay {w w' : World} {v : Value} {hs : List UInt8} (h : Held w v hs) (hsz : w.heap.size ≤ w'.heap.size) (hb : ∀ k, v.ownBlock = some k → w'.heap[k]? = w.heap[k]?) : Held w' v hs := by
  rcases h with ⟨rfl, rfl⟩ | ⟨g, o, c, rfl, h1, h2, h3, h4, hg⟩
  · exact .inl ⟨rfl, rfl⟩
  · have e := hb g rfl
    exact .inr ⟨g, o, c, rfl, h1, h2, fun j hj => by rw [World.cell?_of_block e, World.frozen?_of_block e]; exact h3 j hj, fun j u hu => by rw [World.cell?_of_block e]; exact h4 j u hu, by omega⟩

/-- The ring as data. -/
structure Rg where
  fr : Nat
  n : Nat
  start : Nat
  fin : Nat
  held : List UInt8
  failed : Bool
def Rg.tail (R : Rg) : Nat := R.start + R.held.length
def Rg.place (R : Rg) (s : Nat) : Nat := R.fr + s % R.n
def Rg.room (R : Rg) : Nat := (R.start / 118 + R.n - 1) * 118 - R.tail
structure Rg.wf (R : Rg) : Prop where
  two : 2 ≤ R.n
  many : R.n ≤ 8192
  fr : R.fr ≤ 8192
  start : R.start ≤ 2199023255552
  held : R.held.length ≤ 2000000
  lo : R.start ≤ R.fin
  hi : R.fin ≤ R.tail

structure RgIs (w : World) (q p : Nat) (gp : List Nat) (R : Rg) (hv : Value) : Prop where
  wf : R.wf
  head : w.heap[q]? = some (.cells #[.pointer (some ⟨p, 0, none⟩), .int .i64 R.fr, .int .i64 R.n, .int .i64 R.start, .int .i64 R.fin, hv, .bool R.failed] 74 (0, 0))
  held : Held w hv R.held
  ne : hv.ownBlock ≠ some q
  inQ : q ∈ gp
  inH : ∀ k, hv.ownBlock = some k → k ∈ gp
  lim : ∀ k ∈ gp, k < w.heap.size
def RgAt (w : World) (q p : Nat) (gp : List Nat) (R : Rg) : Prop := ∃ hv, RgIs w q p gp R hv

section
variable {w w' : World} {q p : Nat} {gp : List Nat} {R : Rg} {hv : Value}
theorem RgIs.c0 (h : RgIs w q p gp R hv) : w.cell? ⟨q, 0, none⟩ = some (.pointer (some ⟨p, 0, none⟩)) := by rw [cell_of_row w q 0 _ _ _ h.head]; rfl
theorem RgIs.c1 (h : RgIs w q p gp R hv) : w.cell? ⟨q, 1, none⟩ = some (.int .i64 R.fr) := by rw [cell_of_row w q 1 _ _ _ h.head]; rfl
theorem RgIs.c2 (h : RgIs w q p gp R hv) : w.cell? ⟨q, 2, none⟩ = some (.int .i64 R.n) := by rw [cell_of_row w q 2 _ _ _ h.head]; rfl
theorem RgIs.c3 (h : RgIs w q p gp R hv) : w.cell? ⟨q, 3, none⟩ = some (.int .i64 R.start) := by rw [cell_of_row w q 3 _ _ _ h.head]; rfl
theorem RgIs.c4 (h : RgIs w q p gp R hv) : w.cell? ⟨q, 4, none⟩ = some (.int .i64 R.fin) := by rw [cell_of_row w q 4 _ _ _ h.head]; rfl
theorem RgIs.c5 (h : RgIs w q p gp R hv) : w.cell? ⟨q, 5, none⟩ = some hv := by rw [cell_of_row w q 5 _ _ _ h.head]; rfl
theorem RgIs.c6 (h : RgIs w q p gp R hv) : w.cell? ⟨q, 6, none⟩ = some (.bool R.failed) := by rw [cell_of_row w q 6 _ _ _ h.head]; rfl
theorem RgIs.fz (h : RgIs w q p gp R hv) (o : Nat) : w.frozen? ⟨q, o, none⟩ = false := frozen_of_row w q o _ _ h.head
theorem RgIs.lt (h : RgIs w q p gp R hv) : q < w.heap.size := (Array.getElem?_eq_some_iff.1 h.head).1
theorem RgIs.stay (h : RgIs w q p gp R hv) (hs : w.heap.size ≤ w'.heap.size) (hb : ∀ k, (k = q ∨ hv.ownBlock = some k) → w'.heap[k]? = w.heap[k]?) : RgIs w' q p gp R hv :=
  ⟨h.wf, by rw [hb q (.inl rfl)]; exact h.head, h.held.stay hs (fun k hk => hb k (.inr hk)), h.ne, h.inQ, h.inH, fun k hk => Nat.lt_of_lt_of_le (h.lim k hk) hs⟩
theorem RgIs.below (h : RgIs w q p gp R hv) (hb : Below w.heap.size w w') : RgIs w' q p gp R hv :=
  h.stay hb.size fun k hk => hb.block k (by rcases hk with rfl | hk; exact h.lt; exact h.held.lt k hk)
theorem RgIs.apart (h : RgIs w q p gp R hv) {fq : List Nat} (ho : Off fq w w') (hd : ∀ k ∈ gp, k ∉ fq) : RgIs w' q p gp R hv :=
  h.stay ho.size fun k hk => by
    rcases hk with rfl | hk
    · exact ho.block _ h.lt (hd _ h.inQ)
    · exact ho.block _ (h.held.lt k hk) (hd _ (h.inH k hk))
theorem RgAt.apart (h : RgAt w q p gp R) {fq : List Nat} (ho : Off fq w w') (hd : ∀ k ∈ gp, k ∉ fq) : RgAt w' q p gp R := let ⟨_, x⟩ := h; ⟨_, x.apart ho hd⟩
theorem RgAt.below (h : RgAt w q p gp R) (hb : Below w.heap.size w w') : RgAt w' q p gp R := let ⟨_, x⟩ := h; ⟨_, x.below hb⟩
theorem RgAt.drewN (h : RgAt w q p gp R) (m : Nat) : RgAt (w.drewN m) q p gp R := h.below ⟨rfl, rfl, rfl, Nat.le_refl _, fun _ _ => rfl⟩
theorem RgIs.drewN (h : RgIs w q p gp R hv) (m : Nat) : RgIs (w.drewN m) q p gp R hv := h.below ⟨rfl, rfl, rfl, Nat.le_refl _, fun _ _ => rfl⟩
theorem RgAt.wf (h : RgAt w q p gp R) : R.wf := let ⟨_, x⟩ := h; x.wf
/-- A head with another number. -/
theorem RgIs.heads (h : RgIs w q p gp R hv) (j : Nat) (v : Value) (R' : Rg) (hH : R'.held = R.held) (hf : R'.wf)
    (hc : (#[.pointer (some ⟨p, 0, none⟩), .int .i64 R.fr, .int .i64 R.n, .int .i64 R.start, .int .i64 R.fin, hv, .bool R.failed] : Array Value).setIfInBounds j v = #[.pointer (some ⟨p, 0, none⟩), .int .i64 R'.fr, .int .i64 R'.n, .int .i64 R'.start, .int .i64 R'.fin, hv, .bool R'.failed]) :
    RgIs (w.setCell ⟨q, j, none⟩ v) q p gp R' hv := by
  have hh := heap_setCell_same w q j _ _ v h.head
  rw [hc] at hh
  refine ⟨hf, hh, ?_, h.ne, h.inQ, h.inH, fun k hk => by simpa [World.setCell] using h.lim k hk⟩
  rw [hH]
  exact h.held.stay (by simp [World.setCell]) (fun k hk => heap_setCell_other w _ k v (fun e => h.ne (by rw [hk]; exact congrArg some e)))
end
theorem Off.drewN {fp : List Nat} {a w : World} (h : Off fp a w) (m : Nat) : Off fp a (w.drewN m) := ⟨h.os, h.tape, h.output, h.size, h.block⟩
theorem below_drewN (B : Nat) (w : World) (m : Nat) : Below B w (w.drewN m) := ⟨rfl, rfl, rfl, Nat.le_refl _, fun _ _ => rfl⟩
theorem DevAt.drewN {w : World} {p : Nat} {fp : List Nat} {D : Dv} (h : DevAt w p fp D) (m : Nat) : DevAt (w.drewN m) p fp D := h.below (below_drewN _ _ _)

/-! ### Methods that only read -/
section
variable {w : World} {q p : Nat} {gp : List Nat} {R : Rg}
set_option maxHeartbeats 400000 in
theorem start_any (h : RgAt w q p gp R) : Calls Try.prog 28 #[.pointer (some ⟨q, 0, none⟩)] w fun e w' => e = .returned (.int .i64 R.start) ∧ w' = w := by
  obtain ⟨hv, h⟩ := h
  have k3 := h.c3
  go_enter Try.func28, Try.ntmps28
  go_wp2
  go_ret
  exact ⟨rfl, rfl⟩
set_option maxHeartbeats 400000 in
theorem end_any (h : RgAt w q p gp R) : Calls Try.prog 10 #[.pointer (some ⟨q, 0, none⟩)] w fun e w' => e = .returned (.int .i64 R.fin) ∧ w' = w := by
  obtain ⟨hv, h⟩ := h
  have k4 := h.c4
  go_enter Try.func10, Try.ntmps10
  go_wp2
  go_ret
  exact ⟨rfl, rfl⟩
set_option maxHeartbeats 400000 in
theorem tail_any (h : RgAt w q p gp R) : Calls Try.prog 29 #[.pointer (some ⟨q, 0, none⟩)] w fun e w' => e = .returned (.int .i64 (R.tail : Nat)) ∧ ∃ m, w' = w.drewN m := by
  obtain ⟨hv, h⟩ := h
  obtain ⟨ao, c, rfl⟩ := h.held.len
  have k3 := h.c3
  have k5 := h.c5
  have b1 := h.wf.start
  have b2 := h.wf.held
  clear h
  go_enter Try.func29, Try.ntmps29
  go_wp2
  go_quiet (fail)
  go_wp2
  go_ret
  exact ⟨rfl, _, rfl⟩
set_option maxHeartbeats 400000 in
theorem place_any (s : Nat) (hs : s < 4611686018427387904) (h : RgAt w q p gp R) : Calls Try.prog 47 #[.pointer (some ⟨q, 0, none⟩), .int .i64 (s : Int)] w fun e w' => e = .returned (.int .i64 (R.place s : Nat)) ∧ ∃ m, w' = w.drewN m := by
  obtain ⟨hv, h⟩ := h
  have k1 := h.c1
  have k2 := h.c2
  have b1 := h.wf.two
  have b2 := h.wf.many
  have b3 := h.wf.fr
  clear h
  go_enter Try.func47, Try.ntmps47
  go_wp2
  go_quiet (fail)
  go_wp2
  go_ret
  refine ⟨?_, _, rfl⟩
  show Ending.returned (Value.int .i64 (wrap64 ((R.fr : Int) + (s : Int) % (R.n : Int)))) = _
  have h1 : (s : Int) % (R.n : Int) = ((s % R.n : Nat) : Int) := by omega
  have h2 : s % R.n < R.n := Nat.mod_lt _ (by omega)
  rw [h1]
  congr 2
  simp only [wrap64, Rg.place]
  omega
set_option maxHeartbeats 400000 in
theorem room_any (h : RgAt w q p gp R) : Calls Try.prog 30 #[.pointer (some ⟨q, 0, none⟩)] w fun e w' => e = .returned (.int .i64 (R.room : Nat)) ∧ ∃ m, w' = w.drewN m := by
  have HT := hide (fun m => tail_any (h.drewN m))
  obtain ⟨hv, h⟩ := h
  have k3 := h.c3
  have k2 := h.c2
  have b1 := h.wf.two
  have b2 := h.wf.many
  have b3 := h.wf.start
  have b4 := h.wf.held
  clear h
  have ht : R.tail = R.start + R.held.length := rfl
  have hr : R.room = (R.start / 118 + R.n - 1) * 118 - R.tail := rfl
  by_cases hm : ((R.start : Int) / 118 + (R.n : Int) - 1) * 118 - (R.tail : Int) ≤ 0
  · go_enter Try.func30, Try.ntmps30
    go_wp2
    go_quiet (first | (go_at_call 29; exact Calls.quiet_of (HT.out _)))
    go_wp2
    go_ret
    refine ⟨?_, _, rfl⟩
    show Ending.returned (Value.int .i64 0) = _
    congr 2
    omega
  · go_enter Try.func30, Try.ntmps30
    go_wp2
    go_quiet (first | (go_at_call 29; exact Calls.quiet_of (HT.out _)))
    go_wp2
    go_ret
    refine ⟨?_, _, rfl⟩
    show Ending.returned (Value.int .i64 (((R.start : Int) / 118 + (R.n : Int) - 1) * 118 - ((R.start : Int) + (R.held.length : Int)))) = _
    congr 2
    omega
end
end Go.Proofs.Ytkkmkcobmjdblaa
