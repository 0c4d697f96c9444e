/- A part of it: RRep RApp RTrim RRead RDev. -/
import Derived.Test.YteeembildppgmaaGreatM5
import Derived.Deep.AppendSrc
import Derived.Deep.RegionHeldLaw
namespace Go.Proofs.YteeembildppgmaaGreat
open Go.RowKit
set_option linter.unusedVariables false
set_option linter.unusedSimpArgs false
def Sl (w : World) (v : Value) (bs : List UInt8) : Prop :=
 (∃ c, v = .slice none 0 c ∧ bs = []) ∨ ∃ a c, v = .slice (some a) bs.length c ∧ ∀ j u, (secCells bs)[j]? = some u → w.cell? (a.add j) = some u

def Held (w : World) (v : Value) (hs : List UInt8) : Prop :=
 (v = .slice none 0 0 ∧ hs = []) ∨ ∃ g o c, v = .slice (some ⟨g, o, none⟩) hs.length c ∧ hs.length ≤ c ∧ c ≤ maxLen ∧ w.there g o c ∧ w.rangeAt g o (secCells hs) ∧ g < w.heap.size

theorem Held.len {w : World} {v : Value} {hs : List UInt8} (h : Held w v hs) : ∃ ao c, v = .slice ao hs.length c := by
 rcases h with ⟨rfl, rfl⟩ | ⟨g, o, c, rfl, _⟩
 · exact ⟨_, _, rfl⟩
 · exact ⟨_, _, rfl⟩
theorem Held.lt {w : World} {v : Value} {hs : List UInt8} (h : Held w v hs) : ∀ k, v.ownBlock = some k → k < w.heap.size := by
 rcases h with ⟨rfl, rfl⟩ | ⟨g, o, c, rfl, _, _, _, _, hg⟩
 · intro k hk; simp [Value.ownBlock] at hk
 · intro k hk
   have : g = k := by simpa [Value.ownBlock] using hk
   omega
theorem Held.stay {w w' : World} {v : Value} {hs : List UInt8} (h : Held w v hs) (hsz : w.heap.size ≤ w'.heap.size) (hb : ∀ k, v.ownBlock = some k → w'.heap[k]? = w.heap[k]?) : Held w' v hs := by
 rcases h with ⟨rfl, rfl⟩ | ⟨g, o, c, rfl, h1, h2, h3, h4, hg⟩
 · exact .inl ⟨rfl, rfl⟩
 · have e := hb g rfl
   exact .inr ⟨g, o, c, rfl, h1, h2, fun j hj => by rw [World.cell?_of_block e, World.frozen?_of_block e]; exact h3 j hj, fun j u hu => by rw [World.cell?_of_block e]; exact h4 j u hu, by omega⟩

structure Rg where
 fr : Nat
 n : Nat
 start : Nat
 fin : Nat
 held : List UInt8
 failed : Bool
def Rg.tail (R : Rg) : Nat := R.start + R.held.length
def Rg.place (R : Rg) (s : Nat) : Nat := R.fr + s % R.n
def Rg.room (R : Rg) : Nat := (R.start / 118 + R.n - 1) * 118 - R.tail
structure Rg.wf (R : Rg) : Prop where
 two : 2 ≤ R.n
 many : R.n ≤ 8192
 fr : R.fr ≤ 8192
 start : R.start ≤ 2199023255552
 held : R.held.length ≤ 2000000
 lo : R.start ≤ R.fin
 hi : R.fin ≤ R.tail

structure RgIs (w : World) (q p : Nat) (gp : List Nat) (R : Rg) (hv : Value) : Prop where
 wf : R.wf
 head : w.heap[q]? = some (.cells #[.pointer (some ⟨p, 0, none⟩), .int .i64 R.fr, .int .i64 R.n, .int .i64 R.start, .int .i64 R.fin, hv, .bool R.failed] 136 (0, 0))
 held : Held w hv R.held
 ne : hv.ownBlock ≠ some q
 inQ : q ∈ gp
 inH : ∀ k, hv.ownBlock = some k → k ∈ gp
 lim : ∀ k ∈ gp, k < w.heap.size
def RgAt (w : World) (q p : Nat) (gp : List Nat) (R : Rg) : Prop := ∃ hv, RgIs w q p gp R hv

section
variable {w w' : World} {q p : Nat} {gp : List Nat} {R : Rg} {hv : Value}
theorem RgIs.c0 (h : RgIs w q p gp R hv) : w.cell? ⟨q, 0, none⟩ = some (.pointer (some ⟨p, 0, none⟩)) := by rw [cell_of_row w q 0 _ _ _ h.head]; rfl
theorem RgIs.c1 (h : RgIs w q p gp R hv) : w.cell? ⟨q, 1, none⟩ = some (.int .i64 R.fr) := by rw [cell_of_row w q 1 _ _ _ h.head]; rfl
theorem RgIs.c2 (h : RgIs w q p gp R hv) : w.cell? ⟨q, 2, none⟩ = some (.int .i64 R.n) := by rw [cell_of_row w q 2 _ _ _ h.head]; rfl
theorem RgIs.c3 (h : RgIs w q p gp R hv) : w.cell? ⟨q, 3, none⟩ = some (.int .i64 R.start) := by rw [cell_of_row w q 3 _ _ _ h.head]; rfl
theorem RgIs.c4 (h : RgIs w q p gp R hv) : w.cell? ⟨q, 4, none⟩ = some (.int .i64 R.fin) := by rw [cell_of_row w q 4 _ _ _ h.head]; rfl
theorem RgIs.c5 (h : RgIs w q p gp R hv) : w.cell? ⟨q, 5, none⟩ = some hv := by rw [cell_of_row w q 5 _ _ _ h.head]; rfl
theorem RgIs.c6 (h : RgIs w q p gp R hv) : w.cell? ⟨q, 6, none⟩ = some (.bool R.failed) := by rw [cell_of_row w q 6 _ _ _ h.head]; rfl
theorem RgIs.fz (h : RgIs w q p gp R hv) (o : Nat) : w.frozen? ⟨q, o, none⟩ = false := frozen_of_row w q o _ _ h.head
theorem RgIs.lt (h : RgIs w q p gp R hv) : q < w.heap.size := (Array.getElem?_eq_some_iff.1 h.head).1
theorem RgIs.stay (h : RgIs w q p gp R hv) (hs : w.heap.size ≤ w'.heap.size) (hb : ∀ k, (k = q ∨ hv.ownBlock = some k) → w'.heap[k]? = w.heap[k]?) : RgIs w' q p gp R hv :=
 ⟨h.wf, by rw [hb q (.inl rfl)]; exact h.head, h.held.stay hs (fun k hk => hb k (.inr hk)), h.ne, h.inQ, h.inH, fun k hk => Nat.lt_of_lt_of_le (h.lim k hk) hs⟩
theorem RgIs.below (h : RgIs w q p gp R hv) (hb : Below w.heap.size w w') : RgIs w' q p gp R hv :=
 h.stay hb.size fun k hk => hb.block k (by rcases hk with rfl | hk; exact h.lt; exact h.held.lt k hk)
theorem RgIs.apart (h : RgIs w q p gp R hv) {fq : List Nat} (ho : Off fq w w') (hd : ∀ k ∈ gp, k ∉ fq) : RgIs w' q p gp R hv :=
 h.stay ho.size fun k hk => by
  rcases hk with rfl | hk
  · exact ho.block _ h.lt (hd _ h.inQ)
  · exact ho.block _ (h.held.lt k hk) (hd _ (h.inH k hk))
theorem RgAt.apart (h : RgAt w q p gp R) {fq : List Nat} (ho : Off fq w w') (hd : ∀ k ∈ gp, k ∉ fq) : RgAt w' q p gp R := let ⟨_, x⟩ := h; ⟨_, x.apart ho hd⟩
theorem RgAt.below (h : RgAt w q p gp R) (hb : Below w.heap.size w w') : RgAt w' q p gp R := let ⟨_, x⟩ := h; ⟨_, x.below hb⟩
theorem RgAt.drewN (h : RgAt w q p gp R) (m : Nat) : RgAt (w.drewN m) q p gp R := h.below ⟨rfl, rfl, rfl, Nat.le_refl _, fun _ _ => rfl⟩
theorem RgIs.drewN (h : RgIs w q p gp R hv) (m : Nat) : RgIs (w.drewN m) q p gp R hv := h.below ⟨rfl, rfl, rfl, Nat.le_refl _, fun _ _ => rfl⟩
theorem RgAt.wf (h : RgAt w q p gp R) : R.wf := let ⟨_, x⟩ := h; x.wf
theorem RgIs.heads (h : RgIs w q p gp R hv) (j : Nat) (v : Value) (R' : Rg) (hH : R'.held = R.held) (hf : R'.wf)
 (hc : (#[.pointer (some ⟨p, 0, none⟩), .int .i64 R.fr, .int .i64 R.n, .int .i64 R.start, .int .i64 R.fin, hv, .bool R.failed] : Array Value).setIfInBounds j v = #[.pointer (some ⟨p, 0, none⟩), .int .i64 R'.fr, .int .i64 R'.n, .int .i64 R'.start, .int .i64 R'.fin, hv, .bool R'.failed]) :
 RgIs (w.setCell ⟨q, j, none⟩ v) q p gp R' hv := by
 have hh := heap_setCell_same w q j _ _ v h.head
 rw [hc] at hh
 refine ⟨hf, hh, ?_, h.ne, h.inQ, h.inH, fun k hk => by simpa [World.setCell] using h.lim k hk⟩
 rw [hH]
 exact h.held.stay (by simp [World.setCell]) (fun k hk => heap_setCell_other w _ k v (fun e => h.ne (by rw [hk]; exact congrArg some e)))
end
section
variable {w : World} {q p : Nat} {gp : List Nat} {R : Rg}
set_option maxHeartbeats 400000 in
theorem start_any (h : RgAt w q p gp R) : Calls Tryz.prog 87 #[.pointer (some ⟨q, 0, none⟩)] w fun e w' => e = .returned (.int .i64 R.start) ∧ w' = w := by
 obtain ⟨hv, h⟩ := h
 have k3 := h.c3
 go_enter Tryz.func87, Tryz.ntmps87
 go_wp2
 go_ret
 exact ⟨rfl, rfl⟩
set_option maxHeartbeats 400000 in
theorem end_any (h : RgAt w q p gp R) : Calls Tryz.prog 76 #[.pointer (some ⟨q, 0, none⟩)] w fun e w' => e = .returned (.int .i64 R.fin) ∧ w' = w := by
 obtain ⟨hv, h⟩ := h
 have k4 := h.c4
 go_enter Tryz.func76, Tryz.ntmps76
 go_wp2
 go_ret
 exact ⟨rfl, rfl⟩
set_option maxHeartbeats 400000 in
theorem tail_any (h : RgAt w q p gp R) : Calls Tryz.prog 56 #[.pointer (some ⟨q, 0, none⟩)] w fun e w' => e = .returned (.int .i64 (R.tail : Nat)) ∧ ∃ m, w' = w.drewN m := by
 obtain ⟨hv, h⟩ := h
 obtain ⟨ao, c, rfl⟩ := h.held.len
 have k3 := h.c3
 have k5 := h.c5
 have b1 := h.wf.start
 have b2 := h.wf.held
 clear h
 go_enter Tryz.func56, Tryz.ntmps56
 go_wp2
 go_quiet (fail)
 go_wp2
 go_ret
 exact ⟨rfl, _, rfl⟩
set_option maxHeartbeats 400000 in
theorem rplace_any (s : Nat) (hs : s < 4611686018427387904) (h : RgAt w q p gp R) : Calls Tryz.prog 131 #[.pointer (some ⟨q, 0, none⟩), .int .i64 (s : Int)] w fun e w' => e = .returned (.int .i64 (R.place s : Nat)) ∧ ∃ m, w' = w.drewN m := by
 obtain ⟨hv, h⟩ := h
 have k1 := h.c1
 have k2 := h.c2
 have b1 := h.wf.two
 have b2 := h.wf.many
 have b3 := h.wf.fr
 clear h
 go_enter Tryz.func131, Tryz.ntmps131
 go_wp2
 go_quiet (fail)
 go_wp2
 go_ret
 refine ⟨?_, _, rfl⟩
 show Ending.returned (Value.int .i64 (wrap64 ((R.fr : Int) + (s : Int) % (R.n : Int)))) = _
 have h1 : (s : Int) % (R.n : Int) = ((s % R.n : Nat) : Int) := by omega
 have h2 : s % R.n < R.n := Nat.mod_lt _ (by omega)
 rw [h1]
 congr 2
 simp only [wrap64, Rg.place]
 omega
set_option maxHeartbeats 400000 in
theorem room_any (h : RgAt w q p gp R) : Calls Tryz.prog 84 #[.pointer (some ⟨q, 0, none⟩)] w fun e w' => e = .returned (.int .i64 (R.room : Nat)) ∧ ∃ m, w' = w.drewN m := by
 have HT := hide (fun m => tail_any (h.drewN m))
 obtain ⟨hv, h⟩ := h
 have k3 := h.c3
 have k2 := h.c2
 have b1 := h.wf.two
 have b2 := h.wf.many
 have b3 := h.wf.start
 have b4 := h.wf.held
 clear h
 have ht : R.tail = R.start + R.held.length := rfl
 have hr : R.room = (R.start / 118 + R.n - 1) * 118 - R.tail := rfl
 by_cases hm : ((R.start : Int) / 118 + (R.n : Int) - 1) * 118 - (R.tail : Int) ≤ 0
 · go_enter Tryz.func84, Tryz.ntmps84
   go_wp2
   go_quiet (first | (go_at_call 56; exact Calls.quiet_of (HT.out _)))
   go_wp2
   go_ret
   refine ⟨?_, _, rfl⟩
   show Ending.returned (Value.int .i64 0) = _
   congr 2
   omega
 · go_enter Tryz.func84, Tryz.ntmps84
   go_wp2
   go_quiet (first | (go_at_call 56; exact Calls.quiet_of (HT.out _)))
   go_wp2
   go_ret
   refine ⟨?_, _, rfl⟩
   show Ending.returned (Value.int .i64 (((R.start : Int) / 118 + (R.n : Int) - 1) * 118 - ((R.start : Int) + (R.held.length : Int)))) = _
   congr 2
   omega
end
end Go.Proofs.YteeembildppgmaaGreat
namespace Go.Proofs.YteeembildppgmaaGreat
open Go.RowKit
set_option linter.unusedVariables false
set_option linter.unusedSimpArgs false
theorem setCells_block (b : Nat) : ∀ (vs : List Value) (o : Nat) (w : World) (k : Nat), k ≠ b → (w.setCells b o vs).heap[k]? = w.heap[k]?
 | [], _, _, _, _ => rfl
 | v :: r, o, w, k, h => (setCells_block b r (o + 1) _ k h).trans (heap_setCell_other w _ k v h)
theorem setCells_rest (b : Nat) : ∀ (vs : List Value) (o : Nat) (w : World), (w.setCells b o vs).os = w.os ∧ (w.setCells b o vs).tape = w.tape ∧ (w.setCells b o vs).output = w.output ∧ (w.setCells b o vs).heap.size = w.heap.size
 | [], _, _ => ⟨rfl, rfl, rfl, rfl⟩
 | v :: r, o, w => by
   obtain ⟨h1, h2, h3, h4⟩ := setCells_rest b r (o + 1) (w.setCell ⟨b, o, none⟩ v)
   exact ⟨h1, h2, h3, h4.trans (by simp [World.setCell])⟩
theorem grown_setCells (w : World) (b o : Nat) (vs : List Value) : w.grownBy (w.setCells b o vs) (some b) := by
 obtain ⟨h1, h2, h3, h4⟩ := setCells_rest b vs o w
 exact ⟨h1, h2, h3, by omega, fun k _ hk => setCells_block b vs o w k (fun e => hk (by rw [e]))⟩
theorem secCells_append (a b : List UInt8) : secCells (a ++ b) = secCells a ++ secCells b := by simp [secCells]
theorem held_of_owns {w : World} {base : Nat} {v : Value} {n : Nat} {bs : List UInt8} (h : w.ownsRow base 5 1 v n (secCells bs)) : Held w v bs := by
 obtain ⟨hl, h⟩ := h
 rw [length_secCells, Nat.mul_one] at hl
 subst hl
 rcases h with ⟨rfl, h0⟩ | ⟨g, cap, cur, rfl, _, hg, h1, h2, h3, h4⟩
 · exact .inl ⟨rfl, List.eq_nil_of_length_eq_zero h0⟩
 · rw [Nat.mul_one] at h3 h4
   refine .inr ⟨g, 0, cap, rfl, h1, h2, fun j hj => ⟨?_, frozen_of_row w g _ _ _ hg⟩, fun j u hu => ?_, (Array.getElem?_eq_some_iff.1 hg).1⟩
   · rw [cell_of_row w g _ _ _ _ hg, Nat.zero_add, Array.getElem?_eq_getElem (by omega)]; rfl
   · rw [Nat.zero_add, cell_of_row w g _ _ _ _ hg]
     rw [← h4] at hu
     have hj : j < bs.length := by
      have := (List.getElem?_eq_some_iff.1 hu).1
      rw [List.length_take] at this
      omega
     rw [List.getElem?_take_of_lt hj] at hu
     simpa using hu
theorem Sl.src {w : World} {x : Value} {bs : List UInt8} (h : Sl w x bs) : Src Tryz.prog 1 36 x bs.length (secCells bs) w := by
 rcases h with ⟨c, rfl, rfl⟩ | ⟨a, c, rfl, hc⟩
 · exact Src.ofNil w Tryz.underlying36 c
 · exact Src.ofSlice w Tryz.underlying36 a _ c _ (by rw [length_secCells, Nat.mul_one]) hc (one_secCells _)

theorem run_append_nothing (w : World) (ty : TypeId) (x : Value) (hs : Src Tryz.prog 1 36 x 0 [] w) :
 (Builtin.append_ #[36, 36] ty #[.slice none 0 0, x]).run Tryz.prog w = .ok (.slice none 0 0) w := by
 obtain ⟨i, hi, hz, hsz, hby⟩ := Tryz.info5'
 simp [Builtin.append_, run_underlying Tryz.underlying36, sizeOf, typeInfo, hi, hs.len, hsz, hs.cells]

theorem run_append_held (w : World) (ty : TypeId) (v x : Value) (hs bs : List UInt8) (hh : Held w v hs) (hx : Sl w x bs) (hb : hs.length + bs.length ≤ 100000000) :
 ∃ v' w', (Builtin.append_ #[36, 36] ty #[v, x]).run Tryz.prog w = .ok v' w' ∧ Held w' v' (hs ++ bs) ∧ w.grownBy w' v.ownBlock ∧ (∀ k, v'.ownBlock = some k → v.ownBlock = some k ∨ w.heap.size ≤ k) := by
 obtain ⟨i, hi, hz, hsz, hby⟩ := Tryz.info5'
 have hmax : hs.length + bs.length ≤ maxLen := by simp only [maxLen]; omega
 rcases hh with ⟨rfl, rfl⟩ | ⟨g, o, c, rfl, h1, h2, h3, h4, hg⟩
 · by_cases h0 : bs = []
   · subst h0
     exact ⟨_, w, run_append_nothing w ty x hx.src, .inl ⟨rfl, rfl⟩, ⟨rfl, rfl, rfl, Nat.le_refl _, fun _ _ _ => rfl⟩, fun k hk => .inl hk⟩
   · rcases hx with ⟨_, _, e⟩ | ⟨a, c, rfl, hc⟩
     · exact absurd e h0
     · obtain ⟨v', w', hr, ho, hgr, _⟩ := run_append_own (P := Tryz.prog) w w.heap.size 36 ty 5 i (.int .u8 0) 1 1 Tryz.underlying36 hi hz hsz hby rfl (by omega) (.slice none 0 0) 0 [] (World.ownsRow_nil w _ 5 1) a bs.length c (secCells bs) (by rw [length_secCells, Nat.mul_one]) hc (one_secCells _) (by simpa using hmax) (by omega) (Nat.le_refl _)
       exact ⟨v', w', hr, held_of_owns (by simpa using ho), hgr, fun k hk => .inr (ho.lt k hk).1⟩
 · by_cases hroom : hs.length + bs.length ≤ c
   · have hth : w.there g (o + hs.length) bs.length := fun j hj => by rw [Nat.add_assoc]; exact h3 (hs.length + j) (by omega)
     have hr := run_append_room_src (P := Tryz.prog) w 36 36 ty 5 i Tryz.underlying36 hi g o hs.length c x bs.length (secCells bs) (by rw [hsz]; exact hx.src) hroom
      (fun j hj => by rw [length_secCells] at hj; rw [hsz, Nat.mul_one]; exact (hth j hj).1) (fun j hj => by rw [length_secCells] at hj; rw [hsz, Nat.mul_one]; exact (hth j hj).2)
     rw [hsz, Nat.mul_one] at hr
     refine ⟨_, _, hr, .inr ⟨g, o, c, by rw [List.length_append], by rw [List.length_append]; exact hroom, h2, World.there_setCells h3 _ _ _, ?_, by rw [(setCells_rest g _ _ w).2.2.2]; exact hg⟩, grown_setCells w g _ _, fun k hk => .inl hk⟩
     have r1 := World.rangeAt_setCells_same w g (o + hs.length) (secCells bs) (by rw [length_secCells]; exact hth)
     have r2 := World.rangeAt_setCells_apart h4 g (o + hs.length) (secCells bs) (.inr (.inl (by rw [length_secCells]; omega)))
     intro j u hu
     rw [secCells_append] at hu
     by_cases hj : j < hs.length
     · rw [List.getElem?_append_left (by rw [length_secCells]; exact hj)] at hu
       exact r2 j u hu
     · rw [List.getElem?_append_right (by rw [length_secCells]; omega), length_secCells] at hu
       have := r1 _ u hu
       rwa [show o + hs.length + (j - hs.length) = o + j by omega] at this
   · rcases hx with ⟨_, _, rfl⟩ | ⟨a, ca, rfl, hc⟩
     · simp at hroom; omega
     · obtain ⟨v', w', hr, ho, hgr⟩ := run_append_arg_grows (P := Tryz.prog) w 36 ty 5 i (.int .u8 0) 1 1 Tryz.underlying36 hi hz hsz hby rfl (by omega) ⟨g, o, none⟩ hs.length c (secCells hs) (by rw [length_secCells, Nat.mul_one]) (fun j u hu => by rw [Addr.add_mid]; exact h4 j u hu) a bs.length ca (secCells bs) (by rw [length_secCells, Nat.mul_one]) hc (by omega) hmax (by omega)
       rw [← secCells_append] at ho
       exact ⟨v', w', hr, held_of_owns ho, ⟨hgr.os, hgr.tape, hgr.output, hgr.size, fun k hk _ => hgr.block k hk (by simp)⟩, fun k hk => .inr (ho.lt k hk).1⟩

theorem wpList_append_held {ops : Array Oper} {rest : List Oper} {o : Oper} {a : Act} {w : World} {Q : Exit → Act → World → Prop}
 (hg : o.guard = none) (s x : Operand) (hop : o.op = Op.call { callee := Callee.builtin Builtin.append, args := #[s, x], argTypes := #[36, 36] })
 (v y : Value) (hs bs : List UInt8) (hv : a.eval s = v) (hy : a.eval x = y) (hh : Held w v hs) (hx : Sl w y bs) (hb : hs.length + bs.length ≤ 100000000)
 (hK : ∀ v' w', Held w' v' (hs ++ bs) → w.grownBy w' v.ownBlock → (∀ k, v'.ownBlock = some k → v.ownBlock = some k ∨ w.heap.size ≤ k) → wpList Tryz.prog ops Q rest (a.put o.dst v') w') :
 wpList Tryz.prog ops Q (o :: rest) a w := by
 refine wpList_plain hg fun K hK' => ?_
 obtain ⟨v', w', hrun, r1, r2, r3⟩ := run_append_held w o.type v y hs bs hh hx hb
 unfold Oper.wp
 simp [execOp, hop, resolve, invoke, builtin, hv, hy, hrun, Result.andThen]
 exact hK' _ _ (hK v' w' r1 r2 r3)
theorem appended_is {w w6 : World} {q p : Nat} {gp : List Nat} {R : Rg} {hv v' : Value} {bs : List UInt8} (h : RgIs w q p gp R hv) (hb : R.held.length + bs.length ≤ 2000000)
 (hh : Held w6 v' (R.held ++ bs)) (hg : w.grownBy w6 hv.ownBlock) (hfr : ∀ k, v'.ownBlock = some k → hv.ownBlock = some k ∨ w.heap.size ≤ k) :
 RgIs (w6.setCell ⟨q, 5, none⟩ v') q p (gp ++ v'.ownBlock.toList) { R with held := R.held ++ bs } v' ∧ Off gp w (w6.setCell ⟨q, 5, none⟩ v') ∧ ∀ k ∈ gp ++ v'.ownBlock.toList, k ∈ gp ∨ w.heap.size ≤ k := by
 have hq6 : w6.heap[q]? = w.heap[q]? := hg.block q h.lt (fun e => h.ne e.symm)
 have n2 : v'.ownBlock ≠ some q := fun e => by
  rcases hfr q e with h1 | h1
  · exact h.ne h1
  · have := h.lt; omega
 have hhd := heap_setCell_same w6 q 5 _ _ v' (hq6.trans h.head)
 have hs6 : (w6.setCell ⟨q, 5, none⟩ v').heap.size = w6.heap.size := by simp [World.setCell]
 refine ⟨⟨?_, hhd, ?_, n2, by simp [h.inQ], fun k hk => by simp [hk], ?_⟩, ?_, ?_⟩
 · refine ⟨h.wf.two, h.wf.many, h.wf.fr, h.wf.start, ?_, h.wf.lo, ?_⟩
   · show (R.held ++ bs).length ≤ _
     rw [List.length_append]; exact hb
   · show R.fin ≤ R.start + (R.held ++ bs).length
     have := h.wf.hi
     unfold Rg.tail at this
     rw [List.length_append]; omega
 · exact hh.stay (by omega) (fun k hk => heap_setCell_other w6 _ k v' (fun e => n2 (by rw [hk]; exact congrArg some e)))
 · intro k hk
   rw [hs6]
   rcases List.mem_append.1 hk with hk | hk
   · exact Nat.lt_of_lt_of_le (h.lim k hk) hg.size
   · exact hh.lt k (by simpa using hk)
 · exact ((Off.refl gp w).grown hg (fun k hk => .inl (h.inH k hk))).setCell _ _ (.inl h.inQ)
 · intro k hk
   rcases List.mem_append.1 hk with hk | hk
   · exact .inl hk
   · rcases hfr k (by simpa using hk) with h1 | h1
     · exact .inl (h.inH k h1)
     · exact .inr h1
theorem Sl.len {w : World} {x : Value} {bs : List UInt8} (h : Sl w x bs) : ∃ ao c, x = .slice ao bs.length c := by
 rcases h with ⟨c, rfl, rfl⟩ | ⟨a, c, rfl, _⟩
 · exact ⟨_, _, rfl⟩
 · exact ⟨_, _, rfl⟩
theorem room_le {R : Rg} (h : R.wf) (n : Nat) (hn : n ≤ R.room) : n = 0 ∨ R.held.length + n ≤ 966538 := by
 have h1 := h.many
 have h2 := h.two
 unfold Rg.room Rg.tail at hn
 omega
theorem Sl.drewN {w : World} {x : Value} {bs : List UInt8} (h : Sl w x bs) (m : Nat) : Sl (w.drewN m) x bs := h

set_option maxHeartbeats 400000 in
theorem append_ok {w : World} {q p : Nat} {gp : List Nat} {R : Rg} {ao : Option Addr} {c : Nat} {bs : List UInt8} (h : RgAt w q p gp R) (hf : R.failed = false) (hr : bs.length ≤ R.room) (hx : Sl w (.slice ao bs.length c) bs) :
 Calls Tryz.prog 57 #[.pointer (some ⟨q, 0, none⟩), .slice ao bs.length c] w fun e w' => e = .returned (.int .i64 0) ∧ ∃ gp', RgAt w' q p gp' { R with held := R.held ++ bs } ∧ Off gp w w' ∧ ∀ k ∈ gp', k ∈ gp ∨ w.heap.size ≤ k := by
 have HR := hide (room_any h)
 obtain ⟨hv, h⟩ := h
 have hbd : R.held.length + bs.length ≤ 2000000 := by
  have := h.wf.held
  rcases room_le h.wf _ hr with h1 | h1 <;> omega
 have HBD := hide hbd
 have HX := hide hx
 have HI := hide h
 obtain ⟨ho, hc, hhv⟩ := h.held.len
 have HV := hide hhv
 have k6 := h.c6
 rw [hf] at k6
 have k5 := h.c5
 rw [hhv] at k5
 clear hf hx hbd h hhv
 go_enter Tryz.func57, Tryz.ntmps57
 have HQ : Hid (∀ m v' w6, Held w6 v' (R.held ++ bs) → (w.drewN m).grownBy w6 (Value.slice ho R.held.length hc).ownBlock → w6.cell? ⟨q, 5, none⟩ = some (.slice ho R.held.length hc) ∧ w6.frozen? ⟨q, 5, none⟩ = false) := fun m v' w6 _ hg => by
  have hb := hg.block q HI.out.lt (fun e => HI.out.ne (by rw [HV.out]; exact e.symm))
  refine ⟨(World.cell?_of_block (a := ⟨q, 5, none⟩) hb).trans ?_, (World.frozen?_of_block (a := ⟨q, 5, none⟩) hb).trans (HI.out.fz 5)⟩
  have := HI.out.c5
  rw [HV.out] at this
  exact this
 have HH : Hid (∀ m, Held (w.drewN m) (.slice ho R.held.length hc) R.held) := fun m => by
  have := (HI.out.drewN m).held
  rw [HV.out] at this
  exact this
 have HB2 : Hid (R.held.length + bs.length ≤ 100000000) := by have := HBD.out; show _ ≤ _; omega
 go_wp2_with (first
  | (go_at_call 84; refine HR.out.mono ?_; rintro e w' ⟨rfl, m, rfl⟩)
  | (refine wpList_append_held rfl (.tmp 18) (.tmp 19) rfl _ _ R.held bs rfl rfl (HH.out _) HX.out HB2.out ?_
     intro v6 w6 hh6 hg6 hfr6
     have HH6 := hide hh6
     have HG6 := hide hg6
     have HF6 := hide hfr6
     obtain ⟨k56, f56⟩ := HQ.out _ v6 w6 hh6 hg6
     obtain ⟨a6, c6, hv6⟩ := hh6.len
     clear hh6 hg6 hfr6
     subst hv6))
 go_ret
 have hgg : (w.drewN m).grownBy w6 hv.ownBlock := by rw [HV.out]; exact HG6.out
 have hff : ∀ k, (Value.slice a6 (R.held ++ bs).length c6).ownBlock = some k → hv.ownBlock = some k ∨ (w.drewN m).heap.size ≤ k := by rw [HV.out]; exact HF6.out
 obtain ⟨r1, r2, r3⟩ := appended_is (HI.out.drewN m) HBD.out HH6.out hgg hff
 rw [List.length_append] at r1 r2 r3
 exact ⟨rfl, _, ⟨_, r1⟩, ⟨r2.os, r2.tape, r2.output, r2.size, r2.block⟩, r3⟩
end Go.Proofs.YteeembildppgmaaGreat
namespace Go.Proofs.YteeembildppgmaaGreat
open Go.RowKit
set_option linter.unusedVariables false
set_option linter.unusedSimpArgs false
theorem cut_held {w : World} {ao : Option Addr} {c : Nat} {hs : List UInt8} (h : Held w (.slice ao hs.length c) hs) (l : Nat) (hl : l ≤ hs.length) : Held w (.slice (cutAt ao c l) (hs.length - l) (c - l)) (hs.drop l) := by
 rcases h with ⟨e, rfl⟩ | ⟨g, o, c', e, h1, h2, h3, h4, hg⟩
 · injection e with e1 e2 e3
   subst e1 e3
   refine .inl ⟨?_, by simp⟩
   simp at hl
   subst hl
   simp [cutAt]
 · injection e with e1 e2 e3
   subst e1 e3
   by_cases hc : c = l
   · refine .inr ⟨g, o, c - l, by simp [cutAt, hc], by simp; omega, by omega, fun j hj => by omega, fun j u hu => ?_, hg⟩
     have : hs.drop l = [] := List.drop_of_length_le (by omega)
     rw [this] at hu
     simp [secCells] at hu
   · refine .inr ⟨g, o + l, c - l, by simp [cutAt, hc, Addr.add_mid], by simp; omega, by omega, fun j hj => by rw [Nat.add_assoc]; exact h3 (l + j) (by omega), fun j u hu => ?_, hg⟩
     rw [Nat.add_assoc]
     refine h4 (l + j) u ?_
     have : secCells (hs.drop l) = (secCells hs).drop l := by simp [secCells]
     rw [this, List.getElem?_drop] at hu
     exact hu
theorem held_sl {w : World} {v : Value} {hs : List UInt8} (h : Held w v hs) : Sl w v hs := by
 rcases h with ⟨rfl, rfl⟩ | ⟨g, o, c', rfl, h1, h2, h3, h4, hg⟩
 · exact .inl ⟨_, rfl, rfl⟩
 · exact .inr ⟨_, _, rfl, fun j u hu => by rw [Addr.add_mid]; exact h4 j u hu⟩
theorem cut_block (ao : Option Addr) (c l n m c' : Nat) : (Value.slice (cutAt ao c l) n m).ownBlock = (Value.slice ao n c').ownBlock := by
 cases ao with
 | none => simp [cutAt, Value.ownBlock]
 | some a =>
   by_cases e : c = l
   · simp [cutAt, e, Value.ownBlock]
   · simp [cutAt, e, Value.ownBlock, Addr.add]
     split <;> rfl

theorem trimmed_is {w : World} {q p : Nat} {gp : List Nat} {R : Rg} {ho : Option Addr} {hc : Nat} (pos : Nat) (h : RgIs w q p gp R (.slice ho R.held.length hc)) (h1 : R.start ≤ pos) (h2 : pos ≤ R.fin) (h3 : pos ≤ 2199023255552) :
 RgAt ((w.setCell ⟨q, 5, none⟩ (.slice (cutAt ho hc (pos - R.start)) (R.held.length - (pos - R.start)) (hc - (pos - R.start)))).setCell ⟨q, 3, none⟩ (.int .i64 (pos : Int))) q p gp { R with start := pos, held := R.held.drop (pos - R.start) } ∧
 Off gp w ((w.setCell ⟨q, 5, none⟩ (.slice (cutAt ho hc (pos - R.start)) (R.held.length - (pos - R.start)) (hc - (pos - R.start)))).setCell ⟨q, 3, none⟩ (.int .i64 (pos : Int))) := by
 have hle : pos - R.start ≤ R.held.length := by have := h.wf.hi; unfold Rg.tail at this; omega
 have hcb := cut_block ho hc (pos - R.start) (R.held.length - (pos - R.start)) (hc - (pos - R.start)) hc
 have hcb' : (Value.slice (cutAt ho hc (pos - R.start)) (R.held.length - (pos - R.start)) (hc - (pos - R.start))).ownBlock = (Value.slice ho R.held.length hc).ownBlock := by rw [hcb]; cases ho <;> rfl
 obtain ⟨V, hV⟩ : ∃ V, Value.slice (cutAt ho hc (pos - R.start)) (R.held.length - (pos - R.start)) (hc - (pos - R.start)) = V := ⟨_, rfl⟩
 have hh := cut_held h.held (pos - R.start) hle
 rw [hV] at hcb' hh ⊢
 have e1 := heap_setCell_same w q 5 _ _ V h.head
 have e2 := heap_setCell_same _ q 3 _ _ (.int .i64 (pos : Int)) e1
 refine ⟨⟨V, ⟨?_, e2, ?_, by rw [hcb']; exact h.ne, h.inQ, fun k hk => h.inH k (by rw [← hcb']; exact hk), fun k hk => by simpa [World.setCell] using h.lim k hk⟩⟩, ((Off.refl gp w).setCell _ _ (.inl h.inQ)).setCell _ _ (.inl h.inQ)⟩
 · refine ⟨h.wf.two, h.wf.many, h.wf.fr, h3, ?_, h2, ?_⟩
   · have := h.wf.held
     show (R.held.drop _).length ≤ _
     rw [List.length_drop]; omega
   · have := h.wf.hi
     unfold Rg.tail at this ⊢
     show R.fin ≤ pos + (R.held.drop _).length
     rw [List.length_drop]; omega
 · refine hh.stay (by simp [World.setCell]) (fun k hk => ?_)
   have hkq : k ≠ q := fun e => h.ne (by rw [← hcb', hk, e])
   rw [heap_setCell_other _ _ k _ hkq, heap_setCell_other _ _ k _ hkq]

set_option maxHeartbeats 400000 in
theorem trim_ok {w : World} {q p : Nat} {gp : List Nat} {R : Rg} (pos : Nat) (h : RgAt w q p gp R) (h1 : R.start ≤ pos) (h2 : pos ≤ R.fin) (h3 : pos ≤ 2199023255552) :
 Calls Tryz.prog 115 #[.pointer (some ⟨q, 0, none⟩), .int .i64 (pos : Int)] w fun e w' => e = .returned (.int .i64 0) ∧ RgAt w' q p gp { R with start := pos, held := R.held.drop (pos - R.start) } ∧ Off gp w w' := by
 obtain ⟨hv, h⟩ := h
 obtain ⟨ho, hc, hhv⟩ := h.held.len
 subst hhv
 have k3 := h.c3
 have k4 := h.c4
 have k5 := h.c5
 have f3 := h.fz 3
 have f5 := h.fz 5
 have hle : pos - R.start ≤ R.held.length := by have := h.wf.hi; unfold Rg.tail at this; omega
 have hd : decide ((pos : Int) < (R.start : Int)) = false := by simp; omega
 have hd2 : decide ((R.fin : Int) < (pos : Int)) = false := by simp; omega
 have b1 := h.wf.start
 have hsub : (pos : Int) - (R.start : Int) = ((pos - R.start : Nat) : Int) := by omega
 have hcut := fun w => run_cut_from w ho R.held.length hc (pos - R.start) hle
 have HI := hide h
 clear h
 go_enter Tryz.func115, Tryz.ntmps115
 go_wp2
 go_region
 all_goals go_wp2
 all_goals go_ret
 all_goals
  obtain ⟨r1, r2⟩ := trimmed_is pos (HI.out.drewN 1) h1 h2 h3
  exact ⟨rfl, r1, ⟨r2.os, r2.tape, r2.output, r2.size, r2.block⟩⟩
end Go.Proofs.YteeembildppgmaaGreat
namespace Go.Proofs.YteeembildppgmaaGreat
open Go.RowKit
set_option linter.unusedVariables false
set_option linter.unusedSimpArgs false
theorem cut_src {w : World} {ao : Option Addr} {c : Nat} {hs : List UInt8} (h : Held w (.slice ao hs.length c) hs) (l k : Nat) (hl : l ≤ hs.length) :
 0 < (secCells ((hs.drop l).take k)).length → ∃ ad, cutAt ao c l = some ad ∧ ∀ j v, (secCells ((hs.drop l).take k))[j]? = some v → w.cell? (ad.add j) = some v := by
 intro hp
 rcases held_sl (cut_held h l hl) with ⟨c', e, hn⟩ | ⟨a, c', e, hc⟩
 · rw [hn] at hp
   simp [secCells] at hp
 · injection e with e1 e2 e3
   refine ⟨a, e1, fun j u hu => hc j u ?_⟩
   have he : secCells ((hs.drop l).take k) = (secCells (hs.drop l)).take k := by simp [secCells]
   rw [he, List.getElem?_take] at hu
   split at hu
   · exact hu
   · simp at hu
theorem Tryz.size5 : (Tryz.prog.info? 5).map (·.size) = some 1 := by kernel_rfl

set_option maxHeartbeats 400000 in
theorem rread_ok {w : World} {q p : Nat} {gp : List Nat} {R : Rg} (pos k : Nat) (h : RgAt w q p gp R) (h1 : R.start ≤ pos) (h2 : pos + k ≤ R.tail) :
 Calls Tryz.prog 99 #[.pointer (some ⟨q, 0, none⟩), .int .i64 (pos : Int), .int .i64 (k : Int)] w fun e w' => ∃ g, e = .returned (.tuple #[.slice (some ⟨g, 0, none⟩) k k, .int .i64 0]) ∧ w.heap.size ≤ g ∧
  w'.heap[g]? = some (.cells (secCells ((R.held.drop (pos - R.start)).take k)).toArray 5 (0, 0)) ∧ Below w.heap.size w w' := by
 have HT := hide (fun m => tail_any (h.drewN m))
 have HT0 := hide (tail_any h)
 obtain ⟨hv, h⟩ := h
 have ht : R.tail = R.start + R.held.length := rfl
 have b1 := h.wf.start
 have b2 := h.wf.held
 obtain ⟨ho, hc, hhv⟩ := h.held.len
 subst hhv
 have k3 := h.c3
 have k5 := h.c5
 have hq := h.lt
 have HI := hide h
 clear h
 have hd1 : decide ((pos : Int) < (R.start : Int)) = false := by simp; omega
 have hd2 : decide ((R.tail : Int) < (pos : Int)) = false := by simp; omega
 have hd3 : decide ((R.tail : Int) - (pos : Int) < (k : Int)) = false := by simp; omega
 have hmk := makeN k (by omega)
 have hsub : (pos : Int) - (R.start : Int) = ((pos - R.start : Nat) : Int) := by omega
 have hcut := fun w => run_cut_from w ho R.held.length hc (pos - R.start) (by omega)
 go_enter Tryz.func99, Tryz.ntmps99
 go_wp2_with (first
  | (go_at_call 56; refine HT0.out.mono ?_; rintro e w' ⟨rfl, m, rfl⟩)
  | (go_at_call 56; refine (HT.out _).mono ?_; rintro e w' ⟨rfl, m, rfl⟩))
 clear hmk hd1 hd2 hd3 HT HT0
 generalize hW1 : World.alloc _ (Obj.cells (secCells (zerosN k)).toArray 5) = W1
 have hB1 : Below w.heap.size w W1 := by rw [← hW1]; exact (below_drewN _ _ _).alloc (Nat.le_refl _) _
 have HG : Hid (W1.drew.heap[w.heap.size]? = some (.cells (secCells (zerosN k)).toArray 5 (0, 0))) := by show _ = _; rw [← hW1]; exact heap_alloc_new _ _
 clear hW1
 have HB : Hid (Below w.heap.size w W1.drew) := hB1.drew
 have h3 := HI.out.below HB.out
 have k35 : W1.cell? ⟨q, 5, none⟩ = some (.slice ho R.held.length hc) := h3.c5
 have k33 : W1.cell? ⟨q, 3, none⟩ = some (.int .i64 R.start) := h3.c3
 have hdl : pos - R.start ≤ R.held.length := by omega
 obtain ⟨X, hX⟩ : ∃ X, X = (R.held.drop (pos - R.start)).take k := ⟨_, rfl⟩
 have hXl : X.length = k := by rw [hX]; simp; omega
 have HXE := hide hX
 have HN : Hid ((secCells X).length = Nat.min (R.held.length - (pos - R.start)) k) := by
  show _ = _
  rw [length_secCells, hXl]
  exact (Nat.min_eq_right (by omega)).symm
 have HPOS : Hid (0 < (secCells X).length → some (⟨w.heap.size, 0, none⟩ : Addr) = some ⟨w.heap.size, 0, none⟩ ∧ ∃ ad, cutAt ho hc (pos - R.start) = some ad ∧ ∀ j v, (secCells X)[j]? = some v → W1.drew.cell? (ad.add j) = some v) := by
  intro hp
  rw [hX] at hp ⊢
  exact ⟨rfl, cut_src h3.held _ k hdl hp⟩
 have HFIT : Hid (0 + (secCells X).length ≤ (secCells (zerosN k)).length) := by show _ ≤ _; rw [length_secCells, length_secCells, length_zerosN]; omega
 have HST : Hid (∀ w4, Below w.heap.size w w4 → w4.cell? ⟨q, 5, none⟩ = some (.slice ho R.held.length hc) ∧ w4.cell? ⟨q, 3, none⟩ = some (.int .i64 R.start)) := fun w4 hb => by
  have h4 := HI.out.below hb
  exact ⟨h4.c5, h4.c3⟩
 have HXL := hide hXl
 clear h3 hX hXl k3 k5 hB1
 have hwr : IntKind.i64.wrap ((pos - R.start : Nat) : Int) = ((pos - R.start : Nat) : Int) := by rw [IntKind.wrap_i64]; omega
 go_region_held_law (fun w' => w'.cell? ⟨q, 5, none⟩ = some (.slice ho R.held.length hc) ∧ w'.cell? ⟨q, 3, none⟩ = some (.int .i64 R.start)) (simp [*])
  (first | (refine step_copy_splice rfl (.tmp 35) (.tmp 46) 36 36 rfl 5 Tryz.underlying36 Tryz.size5 (some ⟨w.heap.size, 0, none⟩) (cutAt ho hc (pos - R.start)) k k (R.held.length - (pos - R.start)) (hc - (pos - R.start)) rfl rfl w.heap.size 0 (secCells (zerosN k)) 5 HG.out (secCells X) HN.out HPOS.out HFIT.out (one_secCells _) w.heap.size w HB.out (Nat.le_refl _) ?_; intro w4 hg4 hb4; obtain ⟨c45, c43⟩ := HST.out w4 hb4))
 go_wp2
 go_ret2
 refine ⟨_, rfl, Nat.le_refl _, ?_, hb4⟩
 rw [hg4.out]
 congr 3
 unfold splice
 rw [List.take_zero, List.nil_append, List.drop_of_length_le (by rw [length_secCells, length_secCells, length_zerosN, HXL.out]; omega), List.append_nil, HXE.out]
end Go.Proofs.YteeembildppgmaaGreat
namespace Go.Proofs.YteeembildppgmaaGreat
open Go.RowKit
set_option linter.unusedVariables false
set_option linter.unusedSimpArgs false
def Dv.wc (D : Dv) (c : Int) : Dv := { D with calls := c }
def DevC (w : World) (p : Nat) (fp : List Nat) (D : Dv) : Prop := ∃ c, DevAt w p fp (D.wc c)
section
variable {w w' : World} {p : Nat} {fp : List Nat} {D : Dv}
theorem DevC.apart (h : DevC w p fp D) {fq : List Nat} (ho : Off fq w w') (hd : ∀ k ∈ fp, k ∉ fq) : DevC w' p fp D := let ⟨c, x⟩ := h; ⟨c, x.apart ho hd⟩
theorem DevC.below (h : DevC w p fp D) (hb : Below w.heap.size w w') : DevC w' p fp D := let ⟨c, x⟩ := h; ⟨c, x.below hb⟩
theorem DevC.drewN (h : DevC w p fp D) (m : Nat) : DevC (w.drewN m) p fp D := let ⟨c, x⟩ := h; ⟨c, x.drewN m⟩
theorem DevC.wf (h : DevC w p fp D) : D.wf := by
 obtain ⟨c, _, _, _, x⟩ := h
 exact ⟨x.wf.pos, x.wf.max, x.wf.sec, x.wf.ent, x.wf.lo, x.wf.hi⟩
theorem DevC.lim (h : DevC w p fp D) : ∀ k ∈ fp, k < w.heap.size := by
 obtain ⟨c, _, _, _, x⟩ := h
 exact x.lim
theorem DevC.notin (h : DevC w p fp D) : w.heap.size ∉ fp := fun hm => by have := h.lim _ hm; omega

theorem wc_write (D : Dv) (c i : Int) (bs : List UInt8) : ((D.wc c).write i bs).1 = (D.write i bs).1 ∧ ∃ c', ((D.wc c).write i bs).2 = (D.write i bs).2.wc c' := by
 unfold Dv.write
 by_cases hd : D.dead = true
 · have : (D.wc c).dead = true := hd
   rw [if_pos hd, if_pos this]; exact ⟨rfl, c, rfl⟩
 · have : ¬ (D.wc c).dead = true := hd
   rw [if_neg hd, if_neg this]
   by_cases ha : (i < 0 ∨ (D.L.length : Int) ≤ i) ∨ bs.length ≠ 128
   · rw [if_pos ha, if_pos (show (i < 0 ∨ ((D.wc c).L.length : Int) ≤ i) ∨ bs.length ≠ 128 from ha)]; exact ⟨rfl, c, rfl⟩
   · rw [if_neg ha, if_neg (show ¬ ((i < 0 ∨ ((D.wc c).L.length : Int) ≤ i) ∨ bs.length ≠ 128) from ha)]
     by_cases hf : D.fuse = 0
     · rw [if_pos hf, if_pos (show (D.wc c).fuse = 0 from hf)]; exact ⟨rfl, c, rfl⟩
     · rw [if_neg hf, if_neg (show ¬ (D.wc c).fuse = 0 from hf)]; exact ⟨rfl, _, rfl⟩
theorem wc_sync (D : Dv) (c : Int) : (D.wc c).sync.1 = D.sync.1 ∧ ∃ c', (D.wc c).sync.2 = D.sync.2.wc c' := by
 unfold Dv.sync
 by_cases hd : D.dead = true
 · have : (D.wc c).dead = true := hd
   rw [if_pos hd, if_pos this]; exact ⟨rfl, c, rfl⟩
 · have : ¬ (D.wc c).dead = true := hd
   rw [if_neg hd, if_neg this]
   by_cases hf : D.fuse = 0
   · rw [if_pos hf, if_pos (show (D.wc c).fuse = 0 from hf)]; exact ⟨rfl, c, rfl⟩
   · rw [if_neg hf, if_neg (show ¬ (D.wc c).fuse = 0 from hf)]; exact ⟨rfl, _, rfl⟩

theorem write_c (i : Int) (q c : Nat) (bs : List UInt8) (t : TypeId) (fr : Nat × Nat) (h : DevC w p fp D) (hm : D.W.length < 1000000) (hl : bs.length = 128)
 (hq : w.heap[q]? = some (.cells (secCells bs).toArray t fr)) (hqn : q ∉ fp) :
 Calls Tryz.prog 113 #[.pointer (some ⟨p, 0, none⟩), .int .i64 i, .slice (some ⟨q, 0, none⟩) 128 c] w fun e w' => e = .returned (.int .i64 (D.write i bs).1) ∧
  ∃ fp', DevC w' p fp' (D.write i bs).2 ∧ Off fp w w' ∧ ∀ k ∈ fp', k ∈ fp ∨ w.heap.size ≤ k := by
 obtain ⟨cc, h⟩ := h
 obtain ⟨e1, c', e2⟩ := wc_write D cc i bs
 have := write_dev p i q 0 c bs w fp (D.wc cc) h hm (SrcAt.block hq) hqn
 rw [hl] at this
 refine this.mono ?_
 rintro e w' ⟨rfl, fp', h1, h2, h3⟩
 rw [e1]
 rw [e2] at h1
 exact ⟨rfl, fp', ⟨c', h1⟩, h2, h3⟩
theorem sync_c (h : DevC w p fp D) (hm : D.W.length < 1000000) :
 Calls Tryz.prog 114 #[.pointer (some ⟨p, 0, none⟩)] w fun e w' => e = .returned (.int .i64 D.sync.1) ∧ DevC w' p fp D.sync.2 ∧ Off fp w w' := by
 obtain ⟨cc, h⟩ := h
 obtain ⟨e1, c', e2⟩ := wc_sync D cc
 refine (sync_dev p w fp (D.wc cc) h hm).mono ?_
 rintro e w' ⟨rfl, h1, h2⟩
 rw [e1]
 rw [e2] at h1
 exact ⟨rfl, ⟨c', h1⟩, h2⟩
theorem read_c (i : Nat) (h : DevC w p fp D) (hd : D.dead = false) (hi : i < D.L.length) (hm : D.W.length < 1000000) :
 Calls Tryz.prog 18 #[.pointer (some ⟨p, 0, none⟩), .int .i64 (i : Int)] w fun e w' => ∃ g, e = .returned (.tuple #[.slice (some ⟨g, 0, none⟩) 128 128, .int .i64 0]) ∧ w.heap.size ≤ g ∧
  w'.heap[g]? = some (.cells (secCells (D.newest i)).toArray 5 (0, 0)) ∧ DevC w' p fp D ∧ Off fp w w' := by
 obtain ⟨cc, h⟩ := h
 refine (read_ok p i w fp (D.wc cc) h hd hi hm).mono ?_
 rintro e w' ⟨g, rfl, h1, h2, h3, h4⟩
 exact ⟨g, rfl, h1, h2, ⟨_, h3⟩, h4⟩
theorem size_c (h : DevC w p fp D) :
 Calls Tryz.prog 47 #[.pointer (some ⟨p, 0, none⟩)] w fun e w' => e = .returned (.int .i64 (D.L.length : Int)) ∧ w' = w := by
 obtain ⟨cc, h⟩ := h
 exact size_dev p w fp (D.wc cc) h
end
def aheadOf (X : List UInt8) (s n : Nat) : List UInt8 := if beval (X.take 8) = s + 1 then (X.drop 10).take n else zerosN n
theorem length_aheadOf (X : List UInt8) (s n : Nat) (hX : X.length = 128) (hn : n ≤ 118) : (aheadOf X s n).length = n := by
 unfold aheadOf
 split
 · simp; omega
 · exact length_zerosN n
def Rg.high (R : Rg) (s : Nat) : Nat := min (s * 118 + 118) R.tail
def Rg.lead (R : Rg) (s : Nat) : Nat := R.start - s * 118
def Rg.body (R : Rg) (s : Nat) (X : List UInt8) : List UInt8 := aheadOf X s (R.lead s) ++ (R.held.drop (s * 118 + R.lead s - R.start)).take (R.high s - (s * 118 + R.lead s))
def Rg.img (R : Rg) (s : Nat) (X : List UInt8) : List UInt8 := rheadOf s (R.high s - s * 118) ++ (R.body s X ++ zerosN (118 - (R.high s - s * 118)))
structure Rg.puts (R : Rg) (s : Nat) : Prop where
 lo : R.start ≤ s * 118 + 117
 hi : s * 118 < R.tail
theorem Rg.length_body {R : Rg} {s : Nat} {X : List UInt8} (h : R.puts s) (hX : X.length = 128) : (R.body s X).length = R.high s - s * 118 := by
 have h1 := h.lo
 have h2 := h.hi
 unfold Rg.tail at h2
 unfold Rg.body
 rw [List.length_append, length_aheadOf _ _ _ hX (by unfold Rg.lead; omega)]
 simp only [List.length_take, List.length_drop, Rg.lead, Rg.high, Rg.tail]
 omega
theorem Rg.length_img {R : Rg} {s : Nat} {X : List UInt8} (h : R.puts s) (hX : X.length = 128) : (R.img s X).length = 128 := by
 unfold Rg.img
 rw [List.length_append, List.length_append, rlength_headOf, Rg.length_body h hX, length_zerosN]
 unfold Rg.high
 omega
end Go.Proofs.YteeembildppgmaaGreat
