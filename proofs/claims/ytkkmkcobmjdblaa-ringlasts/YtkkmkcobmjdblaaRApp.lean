/- An append to a slice that is held from whatever offset; the laws of Append, Trim and Read. -/
import Derived.Test.YtkkmkcobmjdblaaRRep
namespace Go.Proofs.Ytkkmkcobmjdblaa
open Go.RowKit
set_option linter.unusedVariables false
set_option linter.unusedSimpArgs false

theorem setCells_block (b : Nat) : ∀ (vs : List Value) (o : Nat) (w : World) (k : Nat), k ≠ b → (w.setCells b o vs).heap[k]? = w.heap[k]?
  | [], _, _, _, _ => rfl
  | v :: r, o, w, k, h => (setCells_block b r (o + 1) _ k h).trans (heap_setCell_other w _ k v h)
theorem setCells_rest (b : Nat) : ∀ (vs : List Value) (o : Nat) (w : World), (w.setCells b o vs).os = w.os ∧ (w.setCells b o vs).tape = w.tape ∧ (w.setCells b o vs).output = w.output ∧ (w.setCells b o vs).heap.size = w.heap.size
  | [], _, _ => ⟨rfl, rfl, rfl, rfl⟩
  | v :: r, o, w => by
    obtain ⟨h1, h2, h3, h4⟩ := setCells_rest b r (o + 1) (w.setCell ⟨b, o, none⟩ v)
    exact ⟨h1, h2, h3, h4.trans (by simp [World.setCell])⟩
theorem grown_setCells (w : World) (b o : Nat) (vs : List Value) : w.grownBy (w.setCells b o vs) (some b) := by
  obtain ⟨h1, h2, h3, h4⟩ := setCells_rest b vs o w
  exact ⟨h1, h2, h3, by omega, fun k _ hk => setCells_block b vs o w k (fun e => hk (by rw [e]))⟩
theorem secCells_append (a b : List UInt8) : secCells (a ++ b) = secCells a ++ secCells b := by simp [secCells]
theorem held_of_owns {w : World} {base : Nat} {v : Value} {n : Nat} {bs : List UInt8} (h : w.ownsRow base 5 1 v n (secCells bs)) : Held w v bs := by
  obtain ⟨hl, h⟩ := h
  rw [length_secCells, Nat.mul_one] at hl
  subst hl
  rcases h with ⟨rfl, h0⟩ | ⟨g, cap, cur, rfl, _, hg, h1, h2, h3, h4⟩
  · exact .inl ⟨rfl, List.eq_nil_of_length_eq_zero h0⟩
  · rw [Nat.mul_one] at h3 h4
    refine .inr ⟨g, 0, cap, rfl, h1, h2, fun j hj => ⟨?_, frozen_of_row w g _ _ _ hg⟩, fun j u hu => ?_, (Array.getElem?_eq_some_iff.1 hg).1⟩
    · rw [cell_of_row w g _ _ _ _ hg, Nat.zero_add, Array.getElem?_eq_getElem (by omega)]; rfl
    · rw [Nat.zero_add, cell_of_row w g _ _ _ _ hg]
      rw [← h4] at hu
      have hj : j < bs.length := by
        have := (List.getElem?_eq_some_iff.1 hu).1
        rw [List.length_take] at this
        omega
      rw [List.getElem?_take_of_lt hj] at hu
      simpa using hu
theorem Try.info5' : ∃ i, Try.prog.info? 5 = some i ∧ i.zero = some (.int .u8 0) ∧ i.size = 1 ∧ i.bytes = 1 := by
  obtain ⟨i, hi, hz⟩ := Option.map_eq_some_iff.1 Try.info5
  simp only [Prod.mk.injEq] at hz
  exact ⟨i, hi, hz.1, hz.2.1, hz.2.2⟩
theorem Sl.src {w : World} {x : Value} {bs : List UInt8} (h : Sl w x bs) : Src Try.prog 1 27 x bs.length (secCells bs) w := by
  rcases h with ⟨c, rfl, rfl⟩ | ⟨a, c, rfl, hc⟩
  · exact Src.ofNil w Try.underlying27 c
  · exact Src.ofSlice w Try.underlying27 a _ c _ (by rw [length_secCells, Nat.mul_one]) hc (one_secCells _)

theorem run_append_nothing (w : World) (ty : TypeId) (x : Value) (hs : Src Try.prog 1 27 x 0 [] w) :
    (Builtin.append_ #[27, 27] ty #[.slice none 0 0, x]).run Try.prog w = .ok (.slice none 0 0) w := by
  obtain ⟨i, hi, hz, hsz, hby⟩ := Try.info5'
  simp [Builtin.append_, run_underlying Try.underlying27, sizeOf, typeInfo, hi, hs.len, hsz, hs.cells]

theorem run_append_held (w : World) (ty : TypeId) (v x : Value) (hs bs : List UInt8) (hh : Held w v hs) (hx : Sl w x bs) (hb : hs.length + bs.length ≤ 100000000) :
    ∃ v' w', (Builtin.append_ #[27, 27] ty #[v, x]).run Try.prog w = .ok v' w' ∧ Held w' v' (hs ++ bs) ∧ w.grownBy w' v.ownBlock ∧ (∀ k, v'.ownBlock = some k → v.ownBlock = some k ∨ w.heap.size ≤ k) := by
  obtain ⟨i, hi, hz, hsz, hby⟩ := Try.info5'
  have hmax : hs.length + bs.length ≤ maxLen := by simp only [maxLen]; omega
  rcases hh with ⟨rfl, rfl⟩ | ⟨g, o, c, rfl, h1, h2, h3, h4, hg⟩
  · by_cases h0 : bs = []
    · subst h0
      exact ⟨_, w, run_append_nothing w ty x hx.src, .inl ⟨rfl, rfl⟩, ⟨rfl, rfl, rfl, Nat.le_refl _, fun _ _ _ => rfl⟩, fun k hk => .inl hk⟩
    · rcases hx with ⟨_, _, e⟩ | ⟨a, c, rfl, hc⟩
      · exact absurd e h0
      · obtain ⟨v', w', hr, ho, hgr, _⟩ := run_append_own (P := Try.prog) w w.heap.size 27 ty 5 i (.int .u8 0) 1 1 Try.underlying27 hi hz hsz hby rfl (by omega) (.slice none 0 0) 0 [] (World.ownsRow_nil w _ 5 1) a bs.length c (secCells bs) (by rw [length_secCells, Nat.mul_one]) hc (one_secCells _) (by simpa using hmax) (by omega) (Nat.le_refl _)
        exact ⟨v', w', hr, held_of_owns (by simpa using ho), hgr, fun k hk => .inr (ho.lt k hk).1⟩
  · by_cases hroom : hs.length + bs.length ≤ c
    · have hth : w.there g (o + hs.length) bs.length := fun j hj => by rw [Nat.add_assoc]; exact h3 (hs.length + j) (by omega)
      have hr := run_append_room_src (P := Try.prog) w 27 27 ty 5 i Try.underlying27 hi g o hs.length c x bs.length (secCells bs) (by rw [hsz]; exact hx.src) hroom
        (fun j hj => by rw [length_secCells] at hj; rw [hsz, Nat.mul_one]; exact (hth j hj).1) (fun j hj => by rw [length_secCells] at hj; rw [hsz, Nat.mul_one]; exact (hth j hj).2)
      rw [hsz, Nat.mul_one] at hr
      refine ⟨_, _, hr, .inr ⟨g, o, c, by rw [List.length_append], by rw [List.length_append]; exact hroom, h2, World.there_setCells h3 _ _ _, ?_, by rw [(setCells_rest g _ _ w).2.2.2]; exact hg⟩, grown_setCells w g _ _, fun k hk => .inl hk⟩
      have r1 := World.rangeAt_setCells_same w g (o + hs.length) (secCells bs) (by rw [length_secCells]; exact hth)
      have r2 := World.rangeAt_setCells_apart h4 g (o + hs.length) (secCells bs) (.inr (.inl (by rw [length_secCells]; omega)))
      intro j u hu
      rw [secCells_append] at hu
      by_cases hj : j < hs.length
      · rw [List.getElem?_append_left (by rw [length_secCells]; exact hj)] at hu
        exact r2 j u hu
      · rw [List.getElem?_append_right (by rw [length_secCells]; omega), length_secCells] at hu
        have := r1 _ u hu
        rwa [show o + hs.length + (j - hs.length) = o + j by omega] at this
    · rcases hx with ⟨_, _, rfl⟩ | ⟨a, ca, rfl, hc⟩
      · simp at hroom; omega
      · obtain ⟨v', w', hr, ho, hgr⟩ := run_append_arg_grows (P := Try.prog) w 27 ty 5 i (.int .u8 0) 1 1 Try.underlying27 hi hz hsz hby rfl (by omega) ⟨g, o, none⟩ hs.length c (secCells hs) (by rw [length_secCells, Nat.mul_one]) (fun j u hu => by rw [Addr.add_mid]; exact h4 j u hu) a bs.length ca (secCells bs) (by rw [length_secCells, Nat.mul_one]) hc (by omega) hmax (by omega)
        rw [← secCells_append] at ho
        exact ⟨v', w', hr, held_of_owns ho, ⟨hgr.os, hgr.tape, hgr.output, hgr.size, fun k hk _ => hgr.block k hk (by simp)⟩, fun k hk => .inr (ho.lt k hk).1⟩

/-- .. at a plain region's list. -/
theorem wpList_append_held {ops : Array Oper} {rest : List Oper} {o : Oper} {a : Act} {w : World} {Q : Exit → Act → World → Prop}
    (hg : o.guard = none) (s x : Operand) (hop : o.op = Op.call { callee := Callee.builtin Builtin.append, args := #[s, x], argTypes := #[27, 27] })
    (v y : Value) (hs bs : List UInt8) (hv : a.eval s = v) (hy : a.eval x = y) (hh : Held w v hs) (hx : Sl w y bs) (hb : hs.length + bs.length ≤ 100000000)
    (hK : ∀ v' w', Held w' v' (hs ++ bs) → w.grownBy w' v.ownBlock → (∀ k, v'.ownBlock = some k → v.ownBlock = some k ∨ w.heap.size ≤ k) → wpList Try.prog ops Q rest (a.put o.dst v') w') :
    wpList Try.prog ops Q (o :: rest) a w := by
  refine wpList_plain hg fun K hK' => ?_
  obtain ⟨v', w', hrun, r1, r2, r3⟩ := run_append_held w o.type v y hs bs hh hx hb
  unfold Oper.wp
  simp [execOp, hop, resolve, invoke, builtin, hv, hy, hrun, Result.andThen]
  exact hK' _ _ (hK v' w' r1 r2 r3)
/-- The ring with the appended bytes, its head stored. -/
theorem appended_is {w w6 : World} {q p : Nat} {gp : List Nat} {R : Rg} {hv v' : Value} {bs : List UInt8} (h : RgIs w q p gp R hv) (hb : R.held.length + bs.length ≤ 2000000)
    (hh : Held w6 v' (R.held ++ bs)) (hg : w.grownBy w6 hv.ownBlock) (hfr : ∀ k, v'.ownBlock = some k → hv.ownBlock = some k ∨ w.heap.size ≤ k) :
    RgIs (w6.setCell ⟨q, 5, none⟩ v') q p (gp ++ v'.ownBlock.toList) { R with held := R.held ++ bs } v' ∧ Off gp w (w6.setCell ⟨q, 5, none⟩ v') ∧ ∀ k ∈ gp ++ v'.ownBlock.toList, k ∈ gp ∨ w.heap.size ≤ k := by
  have hq6 : w6.heap[q]? = w.heap[q]? := hg.block q h.lt (fun e => h.ne e.symm)
  have n2 : v'.ownBlock ≠ some q := fun e => by
    rcases hfr q e with h1 | h1
    · exact h.ne h1
    · have := h.lt; omega
  have hhd := heap_setCell_same w6 q 5 _ _ v' (hq6.trans h.head)
  have hs6 : (w6.setCell ⟨q, 5, none⟩ v').heap.size = w6.heap.size := by simp [World.setCell]
  refine ⟨⟨?_, hhd, ?_, n2, by simp [h.inQ], fun k hk => by simp [hk], ?_⟩, ?_, ?_⟩
  · refine ⟨h.wf.two, h.wf.many, h.wf.fr, h.wf.start, ?_, h.wf.lo, ?_⟩
    · show (R.held ++ bs).length ≤ _
      rw [List.length_append]; exact hb
    · show R.fin ≤ R.start + (R.held ++ bs).length
      have := h.wf.hi
      unfold Rg.tail at this
      rw [List.length_append]; omega
  · exact hh.stay (by omega) (fun k hk => heap_setCell_other w6 _ k v' (fun e => n2 (by rw [hk]; exact congrArg some e)))
  · intro k hk
    rw [hs6]
    rcases List.mem_append.1 hk with hk | hk
    · exact Nat.lt_of_lt_of_le (h.lim k hk) hg.size
    · exact hh.lt k (by simpa using hk)
  · exact ((Off.refl gp w).grown hg (fun k hk => .inl (h.inH k hk))).setCell _ _ (.inl h.inQ)
  · intro k hk
    rcases List.mem_append.1 hk with hk | hk
    · exact .inl hk
    · rcases hfr k (by simpa using hk) with h1 | h1
      · exact .inl (h.inH k h1)
      · exact .inr h1
theorem Sl.len {w : World} {x : Value} {bs : List UInt8} (h : Sl w x bs) : ∃ ao c, x = .slice ao bs.length c := by
  rcases h with ⟨c, rfl, rfl⟩ | ⟨a, c, rfl, _⟩
  · exact ⟨_, _, rfl⟩
  · exact ⟨_, _, rfl⟩
theorem room_le {R : Rg} (h : R.wf) (n : Nat) (hn : n ≤ R.room) : n = 0 ∨ R.held.length + n ≤ 966538 := by
  have h1 := h.many
  have h2 := h.two
  unfold Rg.room Rg.tail at hn
  omega
theorem Sl.drewN {w : World} {x : Value} {bs : List UInt8} (h : Sl w x bs) (m : Nat) : Sl (w.drewN m) x bs := h

set_option maxHeartbeats 400000 in
theorem append_full {w : World} {q p : Nat} {gp : List Nat} {R : Rg} {ao : Option Addr} {n c : Nat} (h : RgAt w q p gp R) (hf : R.failed = false) (hr : R.room < n) :
    Calls Try.prog 12 #[.pointer (some ⟨q, 0, none⟩), .slice ao n c] w fun e w' => e = .returned (.int .i64 60) ∧ ∃ m, w' = w.drewN m := by
  have HR := hide (room_any h)
  obtain ⟨hv, h⟩ := h
  have k6 := h.c6
  rw [hf] at k6
  clear h hf
  go_enter Try.func12, Try.ntmps12
  go_wp2_with (go_at_call 30; refine HR.out.mono ?_; rintro e w' ⟨rfl, m, rfl⟩)
  go_ret
  exact ⟨rfl, _, rfl⟩

set_option maxHeartbeats 400000 in
theorem append_ok {w : World} {q p : Nat} {gp : List Nat} {R : Rg} {ao : Option Addr} {c : Nat} {bs : List UInt8} (h : RgAt w q p gp R) (hf : R.failed = false) (hr : bs.length ≤ R.room) (hx : Sl w (.slice ao bs.length c) bs) :
    Calls Try.prog 12 #[.pointer (some ⟨q, 0, none⟩), .slice ao bs.length c] w fun e w' => e = .returned (.int .i64 0) ∧ ∃ gp', RgAt w' q p gp' { R with held := R.held ++ bs } ∧ Off gp w w' ∧ ∀ k ∈ gp', k ∈ gp ∨ w.heap.size ≤ k := by
  have HR := hide (room_any h)
  obtain ⟨hv, h⟩ := h
  have hbd : R.held.length + bs.length ≤ 2000000 := by
    have := h.wf.held
    rcases room_le h.wf _ hr with h1 | h1 <;> omega
  have HBD := hide hbd
  have HX := hide hx
  have HI := hide h
  obtain ⟨ho, hc, hhv⟩ := h.held.len
  have HV := hide hhv
  have k6 := h.c6
  rw [hf] at k6
  have k5 := h.c5
  rw [hhv] at k5
  clear hf hx hbd h hhv
  go_enter Try.func12, Try.ntmps12
  have HQ : Hid (∀ m v' w6, Held w6 v' (R.held ++ bs) → (w.drewN m).grownBy w6 (Value.slice ho R.held.length hc).ownBlock → w6.cell? ⟨q, 5, none⟩ = some (.slice ho R.held.length hc) ∧ w6.frozen? ⟨q, 5, none⟩ = false) := fun m v' w6 _ hg => by
    have hb := hg.block q HI.out.lt (fun e => HI.out.ne (by rw [HV.out]; exact e.symm))
    refine ⟨(World.cell?_of_block (a := ⟨q, 5, none⟩) hb).trans ?_, (World.frozen?_of_block (a := ⟨q, 5, none⟩) hb).trans (HI.out.fz 5)⟩
    have := HI.out.c5
    rw [HV.out] at this
    exact this
  have HH : Hid (∀ m, Held (w.drewN m) (.slice ho R.held.length hc) R.held) := fun m => by
    have := (HI.out.drewN m).held
    rw [HV.out] at this
    exact this
  have HB2 : Hid (R.held.length + bs.length ≤ 100000000) := by have := HBD.out; show _ ≤ _; omega
  go_wp2_with (first
    | (go_at_call 30; refine HR.out.mono ?_; rintro e w' ⟨rfl, m, rfl⟩)
    | (refine wpList_append_held rfl (.tmp 18) (.tmp 19) rfl _ _ R.held bs rfl rfl (HH.out _) HX.out HB2.out ?_
       intro v6 w6 hh6 hg6 hfr6
       have HH6 := hide hh6
       have HG6 := hide hg6
       have HF6 := hide hfr6
       obtain ⟨k56, f56⟩ := HQ.out _ v6 w6 hh6 hg6
       obtain ⟨a6, c6, hv6⟩ := hh6.len
       clear hh6 hg6 hfr6
       subst hv6))
  go_ret
  have hgg : (w.drewN m).grownBy w6 hv.ownBlock := by rw [HV.out]; exact HG6.out
  have hff : ∀ k, (Value.slice a6 (R.held ++ bs).length c6).ownBlock = some k → hv.ownBlock = some k ∨ (w.drewN m).heap.size ≤ k := by rw [HV.out]; exact HF6.out
  obtain ⟨r1, r2, r3⟩ := appended_is (HI.out.drewN m) HBD.out HH6.out hgg hff
  rw [List.length_append] at r1 r2 r3
  exact ⟨rfl, _, ⟨_, r1⟩, ⟨r2.os, r2.tape, r2.output, r2.size, r2.block⟩, r3⟩
end Go.Proofs.Ytkkmkcobmjdblaa
