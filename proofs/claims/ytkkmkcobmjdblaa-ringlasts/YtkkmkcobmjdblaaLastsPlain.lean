/- The law RingLasts without its program: what a round makes of the device; lists of ints and bools that came in. -/
import Derived.Test.YtkkmkcobmjdblaaRInv
import Derived.Deep.Grids
namespace Go.Proofs.Ytkkmkcobmjdblaa
open Go.RowKit
set_option linter.unusedVariables false
set_option linter.unusedSimpArgs false

/-- Behind k rounds: the device tells the stream from st on. -/
structure LastsInv (k st : Nat) (all : List UInt8) (D : Dv) : Prop where
  inv : Inv (rdOf D 3 20) st (all.drop st)
  stLe : st ≤ all.length
  room : all.length ≤ (st / 118 + 19) * 118
  len : all.length ≤ 3000 * k
  well : D.well
  L : D.L.length = 40
  W : D.W = []
theorem lasts_opened {k st : Nat} {all : List UInt8} {D : Dv} (h : LastsInv k st all D) : Rg.opened D 3 20 st = ⟨3, 20, st, all.length, all.drop st, false⟩ := by
  have h1 := h.stLe
  have h2 := h.room
  have e := opened_eq h.inv (by rw [List.length_drop]; omega)
  rw [e]
  have : st + (all.drop st).length = all.length := by rw [List.length_drop]; omega
  rw [this]
theorem lasts_more {k st : Nat} {all : List UInt8} {D : Dv} (h : LastsInv k st all D) : LastsInv (k + 1) st all D := ⟨h.inv, h.stLe, h.room, by have := h.len; omega, h.well, h.L, h.W⟩
theorem lasts_trim {k st : Nat} {all : List UInt8} {D : Dv} (h : LastsInv k st all D) : LastsInv k all.length all D := by
  have h1 := h.stLe
  have hi := inv_trim h.inv all.length h1 (by rw [List.length_drop]; omega)
  rw [List.drop_drop, show st + (all.length - st) = all.length by omega] at hi
  exact ⟨hi, Nat.le_refl _, by omega, h.len, h.well, h.L, h.W⟩
/-- The device with a fuse. -/
def Dv.lit (D : Dv) (f : Int) : Dv := { D with fuse := f }
theorem lit_self (D : Dv) : D.lit D.fuse = D := rfl
def lastsR (st : Nat) (all X : List UInt8) : Rg := ⟨3, 20, st, all.length, all.drop st ++ X, false⟩
theorem lasts_tail {st : Nat} {all X : List UInt8} (h : st ≤ all.length) : (lastsR st all X).tail = all.length + X.length := by
  show st + (all.drop st ++ X).length = _
  rw [List.length_append, List.length_drop]
  omega
theorem lasts_crash {k st : Nat} {all X : List UInt8} {D : Dv} (h : LastsInv k st all D) (f : Int) (h1 : -9223372036854775808 ≤ f) (h2 : f ≤ 9223372036854775807) (hX : X.length ≤ 3000) (hX0 : X ≠ []) (hr : all.length + X.length ≤ (st / 118 + 19) * 118) (hw : (lastsR st all X).wf) (ks : List Bool)
    (hC : (((lastsR st all X).flushD (D.lit f)).2.crashed ks).wf) :
    LastsInv (k + 1) st (all ++ X) (((lastsR st all X).flushD (D.lit f)).2.crashed ks) ∨ (((lastsR st all X).flushD (D.lit f)).1 ≠ 0 ∧ LastsInv (k + 1) st all (((lastsR st all X).flushD (D.lit f)).2.crashed ks)) := by
  have a1 := h.stLe
  have ht := lasts_tail (X := X) a1
  have hXl : 1 ≤ X.length := by
    rcases X with _ | ⟨x, r⟩
    · exact absurd rfl hX0
    · simp
  have hDw : (D.lit f).wf := ⟨h.well.wf.pos, h.well.wf.max, h.well.wf.sec, h.well.wf.ent, h1, h2⟩
  have hne : (lastsR st all X).fin ≠ (lastsR st all X).tail := by rw [ht]; show all.length ≠ _; omega
  have hroom : ((lastsR st all X).tail - 1) / 118 + 1 < (lastsR st all X).start / 118 + (lastsR st all X).n := by
    rw [ht]
    show (all.length + X.length - 1) / 118 + 1 < st / 118 + 20
    omega
  have hn : (lastsR st all X).fr + (lastsR st all X).n ≤ (D.lit f).L.length := by
    show 3 + 20 ≤ D.L.length
    rw [h.L]
    omega
  obtain ⟨t1, t2⟩ := torn_of hw hDw h.well.live h.W hn hne hroom
  have hwell : (((lastsR st all X).flushD (D.lit f)).2.crashed ks).well := ⟨hC, rfl, by show (-1 : Int) < 0; omega⟩
  have hfin : (lastsR st all X).fin = (lastsR st all X).start + (all.drop st).length := by
    show all.length = st + (all.drop st).length
    rw [List.length_drop]
    omega
  have new : NewDev (lastsR st all X) (D.lit f) (((lastsR st all X).flushD (D.lit f)).2.crashed ks) ((lastsR st all X).fin / 118) (((lastsR st all X).tail - 1) / 118) → LastsInv (k + 1) st (all ++ X) (((lastsR st all X).flushD (D.lit f)).2.crashed ks) := fun hN => by
    have hi := inv_newDev hw (all.drop st) X rfl hfin hX0 (D := D.lit f) h.inv hroom hn hN
    have hi2 : Inv (rdOf (((lastsR st all X).flushD (D.lit f)).2.crashed ks) 3 20) st ((all ++ X).drop st) := by
      rw [List.drop_append_of_le_length a1]
      exact hi
    refine ⟨hi2, by rw [List.length_append]; omega, by rw [List.length_append]; exact hr, by rw [List.length_append]; have := h.len; omega, hwell, ?_, rfl⟩
    rw [hN.len]
    exact h.L
  by_cases h0 : ((lastsR st all X).flushD (D.lit f)).1 = 0
  · exact .inl (new ((t2 h0).2 ks))
  · rcases t1 ks with hO | hN
    · refine .inr ⟨h0, ?_⟩
      have hi := inv_oldDev hw (all.drop st) hfin (D := D.lit f) h.inv hroom hn hO
      refine ⟨hi, a1, h.room, by have := h.len; omega, hwell, ?_, rfl⟩
      rw [hO.len]
      exact h.L
    · exact .inl (new hN)
theorem lasts_idle {k st : Nat} {all : List UInt8} {D : Dv} (h : LastsInv k st all D) (f : Int) (ks : List Bool) (hC : ((D.lit f).crashed ks).wf) : LastsInv (k + 1) st all ((D.lit f).crashed ks) := by
  refine ⟨fun s h1 h2 => ?_, h.stLe, h.room, by have := h.len; omega, ⟨hC, rfl, by show (-1 : Int) < 0; omega⟩, ?_, rfl⟩
  · have hl : 3 + s % 20 < D.L.length := by rw [h.L]; have := Nat.mod_lt s (show 20 > 0 by omega); omega
    have e : rdOf ((D.lit f).crashed ks) 3 20 s = rdOf D 3 20 s := by
      show ((D.lit f).crashed ks).newest (3 + s % 20) = D.newest (3 + s % 20)
      rw [crash_far (D.lit f) ks _ hl (fun x hx => by
        have hx : x ∈ D.W := hx
        rw [h.W] at hx
        cases hx), plain_newest D h.W]
      rfl
    rw [e]
    exact h.inv s h1 h2
  · show (laidOver D.L _).length = 40
    rw [length_laidOver]
    exact h.L

/-- The flush of a round, whatever comes of it. -/
theorem lasts_flush {w w7 : World} {q p : Nat} {xs : List Nat} {k st : Nat} {all X : List UInt8} {D : Dv} (h : LastsInv k st all D) (f : Int) (h1 : -9223372036854775808 ≤ f) (h2 : f ≤ 9223372036854775807) (hX : X.length ≤ 3000) (hr : all.length + X.length ≤ (st / 118 + 19) * 118)
    (hB : Both w w7 q p xs (lastsR st all X) (D.lit f)) :
    Calls Try.prog 14 #[.pointer (some ⟨q, 0, none⟩)] w7 fun e w' => ∃ (G : Int) (D' : Dv), e = .returned (.int .i64 G) ∧ DevX w w' p xs D' ∧ Kept xs w7 w' ∧ D'.W.length < 1000000 ∧
      ∀ ks, (D'.crashed ks).wf → LastsInv (k + 1) st (all ++ X) (D'.crashed ks) ∨ (G ≠ 0 ∧ X ≠ [] ∧ LastsInv (k + 1) st all (D'.crashed ks)) := by
  have a1 := h.stLe
  have ht := lasts_tail (X := X) a1
  by_cases hX0 : X = []
  · have he : (lastsR st all X).fin = (lastsR st all X).tail := by rw [ht, hX0]; rfl
    refine (b_idle hB rfl he).mono ?_
    rintro e w' ⟨rfl, m, rfl⟩
    refine ⟨0, D.lit f, rfl, hB.devX.belowW (below_drewN _ _ m), ⟨Nat.le_refl _, fun _ _ => rfl⟩, by show D.W.length < _; rw [h.W]; simp, fun ks hC => .inl ?_⟩
    rw [hX0, List.append_nil]
    exact lasts_idle h f ks hC
  · have hXl : 1 ≤ X.length := by
      rcases X with _ | ⟨x, r⟩
      · exact absurd rfl hX0
      · simp
    have hne : (lastsR st all X).fin ≠ (lastsR st all X).tail := by rw [ht]; show all.length ≠ _; omega
    refine (b_flushes hB h.well.live (by show 3 + 20 ≤ D.L.length; rw [h.L]; omega) (by show D.W.length ≤ _; rw [h.W]; simp) rfl hne).mono ?_
    rintro e w' ⟨rfl, hD', hK⟩
    refine ⟨_, _, rfl, hD', hK, ?_, fun ks hC => ?_⟩
    · have := layD_W (lastsR st all X) (D.lit f) ((lastsR st all X).fin / 118) (((lastsR st all X).tail - 1) / 118)
      rw [show (D.lit f).W = [] from h.W] at this
      have e1 : (lastsR st all X).fin = all.length := rfl
      rw [ht, e1] at this
      have e2 : ((lastsR st all X).flushD (D.lit f)) = (lastsR st all X).layD (D.lit f) (all.length / 118) ((all.length + X.length - 1) / 118) := by unfold Rg.flushD; rw [ht, e1]
      rw [e2]
      simp only [List.length_nil] at this
      omega
    · rcases lasts_crash h f h1 h2 hX hX0 hr hB.wf ks hC with h3 | ⟨h3, h4⟩
      · exact .inl h3
      · exact .inr ⟨h3, hX0, h4⟩

/-! ### Lists of bools and ints that came in -/
def IsBools (w : World) (a : Option Addr) (len cap : Nat) (zs : List Bool) : Prop :=
  zs.length = len ∧ len ≤ 9223372036854775807 ∧ ∀ k, k < len → ∃ b o, a = some ⟨b, o, none⟩ ∧ b < w.heap.size ∧ w.cell? ⟨b, o + k, none⟩ = some (.bool (zs.getD k false))
def IsInts (w : World) (a : Option Addr) (len cap : Nat) (zs : List Int) : Prop :=
  len ≤ 9223372036854775807 ∧ ∀ k, k < len → ∃ b o, a = some ⟨b, o, none⟩ ∧ b < w.heap.size ∧ w.cell? ⟨b, o + k, none⟩ = some (.int .i64 (zs.getD k 0)) ∧ -9223372036854775808 ≤ zs.getD k 0 ∧ zs.getD k 0 ≤ 9223372036854775807
theorem Try.cells4 : Try.prog.cellsOf 4 = 1 := by kernel_rfl
theorem Try.cells3 : Try.prog.cellsOf 3 = 1 := by kernel_rfl
theorem bools_of {H : Type} {enc : TypeId × Value → H} {w : World} {base fuel : Nat} {a : Option Addr} {len cap : Nat} {x : DataW H × List MemPlace} (h : DataW.trod enc Try.prog w base (fun _ => true) true fuel 45 (Value.slice a len cap).cells.toList = some x) :
    ∃ zs, IsBools w a len cap zs := by
  rcases Deep.open_bools Try.underlying45 Try.underlying4 Try.cells4 h with ⟨hcs, _⟩ | ⟨y, l, c, B, hcs, _, hl, hm, _, hcell⟩
  · simp [Value.cells] at hcs
    obtain ⟨rfl, rfl, rfl⟩ := hcs
    exact ⟨[], rfl, by omega, fun k hk => by omega⟩
  · simp [Value.cells] at hcs
    obtain ⟨rfl, rfl, rfl⟩ := hcs
    simp only [maxLen] at hm
    refine ⟨(List.range len).map B, by simp, by omega, fun k hk => ?_⟩
    have hc := hcell k (by omega)
    obtain ⟨b, o, sp⟩ := y
    have hsp : sp = none := by simpa [Addr.add] using World.cell?_spot (hcell 0 (by omega))
    subst hsp
    rw [Addr.add_mid] at hc
    refine ⟨b, o, rfl, World.block_lt_of_cell? w _ hc, ?_⟩
    rw [hc]
    simp [hk]
theorem ints_of {H : Type} {enc : TypeId × Value → H} {w : World} {base fuel : Nat} {a : Option Addr} {len cap : Nat} {x : DataW H × List MemPlace} (h : DataW.trod enc Try.prog w base (fun _ => true) true fuel 66 (Value.slice a len cap).cells.toList = some x) :
    ∃ zs, IsInts w a len cap zs := by
  rcases ChangeShapes.open_ints Try.underlying66 Try.underlying3 Try.cells3 h with ⟨hcs, _⟩ | ⟨y, l, c, zs, hcs, _, hl, hm, hz, _, hcell, hwz⟩
  · simp [Value.cells] at hcs
    obtain ⟨rfl, rfl, rfl⟩ := hcs
    exact ⟨[], by omega, fun k hk => by omega⟩
  · simp [Value.cells] at hcs
    obtain ⟨rfl, rfl, rfl⟩ := hcs
    simp at hz
    simp only [maxLen] at hm
    refine ⟨zs, by omega, fun k hk => ?_⟩
    have hc := hcell k (by omega)
    obtain ⟨b, o, sp⟩ := y
    have hsp : sp = none := by simpa [Addr.add] using World.cell?_spot (hcell 0 (by omega))
    subst hsp
    rw [Addr.add_mid] at hc
    have hmem : zs.getD k 0 ∈ zs := by
      rw [List.getD_eq_getElem?_getD, List.getElem?_eq_getElem (by omega)]
      exact List.getElem_mem (by omega)
    have hb : (decide (IntKind.i64.min ≤ zs.getD k 0) && decide (zs.getD k 0 ≤ IntKind.i64.max)) = true := hwz _ hmem
    rw [Bool.and_eq_true, decide_eq_true_eq, decide_eq_true_eq] at hb
    exact ⟨b, o, rfl, World.block_lt_of_cell? w _ hc, hc, hb.1, hb.2⟩
theorem keep_of {w W : World} {a : Option Addr} {len cap : Nat} {zs : List Bool} (h : IsBools w a len cap zs) (hb : Below w.heap.size w W) : ∀ fp, (∀ k ∈ fp, w.heap.size ≤ k) → KeepAt W fp a zs := fun fp hf k hk => by
  obtain ⟨b, o, h1, h2, h3⟩ := h.2.2 k (by rw [← h.1]; exact hk)
  exact ⟨b, o, h1, fun hm => by have := hf b hm; omega, Nat.lt_of_lt_of_le h2 hb.size, (hb.cell (p := ⟨b, o + k, none⟩) h2).trans h3⟩
end Go.Proofs.Ytkkmkcobmjdblaa
