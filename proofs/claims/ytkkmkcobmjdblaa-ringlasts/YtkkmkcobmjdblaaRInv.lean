/- What a device tells of the stream, and what flushes and crashes make of it: the bridge to the laws. -/
import Derived.Test.YtkkmkcobmjdblaaRTorn
import Derived.Test.YtkkmkcobmjdblaaRStr
namespace Go.Proofs.Ytkkmkcobmjdblaa
open Go.RowKit
set_option linter.unusedVariables false
set_option linter.unusedSimpArgs false

def rdOf (D : Dv) (fr n : Nat) : Nat → List UInt8 := fun s => D.newest (fr + s % n)
theorem opened_eq {D : Dv} {fr n start : Nat} {held : List UInt8} (h : Inv (rdOf D fr n) start held) (hn : (start + held.length) / 118 < start / 118 + n) : Rg.opened D fr n start = ⟨fr, n, start, start + held.length, held, false⟩ := by
  have e : found D fr n start = held := scan_of_inv h n hn
  unfold Rg.opened
  rw [e]
theorem inv_fresh (N fr n : Nat) (h2 : 0 < n) (hn : fr + n ≤ N) : Inv (rdOf (Dv.fresh N) fr n) 0 [] := by
  intro s h1 h3
  have hr : rdOf (Dv.fresh N) fr n s = zeros := fresh_newest N _ (by have := Nat.mod_lt s h2; omega)
  rw [hr, zeros_absent]
  simp [part]
theorem inv_newDev {R : Rg} (hw : R.wf) {D C : Dv} (old app : List UInt8) (hh : R.held = old ++ app) (hf : R.fin = R.start + old.length) (ha : app ≠ []) (hinv : Inv (rdOf D R.fr R.n) R.start old)
    (hroom : (R.tail - 1) / 118 + 1 < R.start / 118 + R.n) (hn : R.fr + R.n ≤ D.L.length) (h : NewDev R D C (R.fin / 118) ((R.tail - 1) / 118)) : Inv (rdOf C R.fr R.n) R.start R.held := by
  have hn0 : 0 < R.n := by have := hw.two; omega
  have b1 := hw.start
  have b2 := hw.held
  have hlo := hw.lo
  refine inv_new (rd := rdOf D R.fr R.n) old app hh hf ha hinv (by unfold Rg.tail; omega) (fun s h1 h2 => ?_) (fun s h1 h2 => h.img s h1 h2) ?_
  · show C.newest (R.place s) = D.newest (R.place s)
    refine h.same _ (Rg.place_lt hw D hn s) (fun ⟨t, a, b, c⟩ => ?_)
    have := place_inj hn0 c (by omega) (by omega)
    omega
  · exact h.nought
theorem inv_oldDev {R : Rg} (hw : R.wf) {D C : Dv} (old : List UInt8) (hf : R.fin = R.start + old.length) (hinv : Inv (rdOf D R.fr R.n) R.start old)
    (hroom : (R.tail - 1) / 118 + 1 < R.start / 118 + R.n) (hn : R.fr + R.n ≤ D.L.length) (h : OldDev R D C (R.fin / 118) ((R.tail - 1) / 118)) : Inv (rdOf C R.fr R.n) R.start old := by
  have hn0 : 0 < R.n := by have := hw.two; omega
  intro s h1 h2
  have e : rdOf C R.fr R.n s = rdOf D R.fr R.n s := by
    show C.newest (R.place s) = D.newest (R.place s)
    refine h.same _ (Rg.place_lt hw D hn s) (fun ⟨t, a, b, c⟩ => ?_)
    have := place_inj hn0 c (by omega) (by omega)
    omega
  rw [e]
  exact hinv s h1 h2
/-- The flush of a ring whose device tells the old stream. -/
theorem torn_of {R : Rg} (hw : R.wf) {D : Dv} (hD : D.wf) (hd : D.dead = false) (hW : D.W = []) (hn : R.fr + R.n ≤ D.L.length) (he : R.fin ≠ R.tail) (hroom : (R.tail - 1) / 118 + 1 < R.start / 118 + R.n) :
    (∀ ks, OldDev R D ((R.flushD D).2.crashed ks) (R.fin / 118) ((R.tail - 1) / 118) ∨ NewDev R D ((R.flushD D).2.crashed ks) (R.fin / 118) ((R.tail - 1) / 118)) ∧
    ((R.flushD D).1 = 0 → NewDev R D (R.flushD D).2 (R.fin / 118) ((R.tail - 1) / 118) ∧ ∀ ks, NewDev R D ((R.flushD D).2.crashed ks) (R.fin / 118) ((R.tail - 1) / 118)) := by
  have h1 := hw.lo
  have h2 := hw.hi
  exact lay_torn hw hD hd hW _ _ (by omega) hn (by omega) (fun t a b => ⟨by omega, by omega⟩)
/-- Behind a flush that went well. -/
theorem inv_flushed {R : Rg} (hw : R.wf) {D D' : Dv} (old app : List UInt8) (hh : R.held = old ++ app) (hf : R.fin = R.start + old.length) (hinv : Inv (rdOf D R.fr R.n) R.start old) (hD : D.well) (hW : D.W = [])
    (hroom : (R.tail - 1) / 118 + 1 < R.start / 118 + R.n) (hn : R.fr + R.n ≤ D.L.length) (h1 : R.fin ≠ R.tail → D' = (R.flushD D).2) (h2 : R.fin = R.tail → D' = D) : Inv (rdOf D' R.fr R.n) R.start R.held := by
  by_cases he : R.fin = R.tail
  · rw [h2 he]
    have hl : app = [] := by
      apply List.eq_nil_of_length_eq_zero
      have : R.tail = R.start + R.held.length := rfl
      rw [hh, List.length_append] at this
      omega
    rw [hh, hl, List.append_nil]
    exact hinv
  · rw [h1 he]
    have ha : app ≠ [] := fun e => he (by
      have : R.tail = R.start + R.held.length := rfl
      rw [hh, e, List.append_nil] at this
      omega)
    obtain ⟨a1, _⟩ := well_flush hw hD hn he
    exact inv_newDev hw old app hh hf ha hinv hroom hn ((torn_of hw hD.wf hD.live hW hn he hroom).2 a1).1
/-- A row of the law's own grows while the ring stands by. -/
theorem Both.grow {w0 w w' : World} {q p : Nat} {v v' : Value} {R : Rg} {D : Dv} (h : Both w0 w q p v.ownBlock.toList R D) (hv0 : ∀ k, v.ownBlock = some k → w0.heap.size ≤ k) (hg : w.grownBy w' v.ownBlock) (hf : ∀ k, v'.ownBlock = some k → v.ownBlock = some k ∨ w.heap.size ≤ k) (hl : ∀ k, v'.ownBlock = some k → k < w'.heap.size) :
    Both w0 w' q p v'.ownBlock.toList R D := by
  obtain ⟨gp, fp, x⟩ := h
  have hO : Off v.ownBlock.toList w w' := ⟨hg.os, hg.tape, hg.output, hg.size, fun k hk hn => hg.block k hk (fun e => hn (by rw [← e]; simp))⟩
  have hsz := x.dv.below.size
  refine ⟨gp, fp, x.rg.apart hO (fun k hk hm => x.gx k hm hk), ⟨x.dv.dev.apart hO (fun k hk hm => (x.dv.xs k hm).2 hk), x.dv.f0, fun k hk => ?_, ?_⟩, x.dis, x.g0, fun k hk hm => ?_⟩
  · have hk' : v'.ownBlock = some k := by simpa using hk
    refine ⟨hl k hk', fun hm => ?_⟩
    rcases hf k hk' with h1 | h1
    · exact (x.dv.xs k (by simp [h1])).2 hm
    · have := x.dv.dev.lim k hm; omega
  · exact x.dv.below.trans (hO.below hsz (fun k hk => hv0 k (by simpa using hk)))
  · have hk' : v'.ownBlock = some k := by simpa using hk
    rcases hf k hk' with h1 | h1
    · exact x.gx k (by simp [h1]) hm
    · have := rg_lim x.rg k hm; omega
theorem Held.kept {w w' : World} {v : Value} {hs : List UInt8} (h : Held w v hs) (hk : Kept v.ownBlock.toList w w') : Held w' v hs := h.stay hk.1 (fun k hk' => hk.2 k (by simp [hk']))
theorem and255 (x : Int) : bits .and .i64 x 255 = x % 256 := by
  have h7 : (BitVec.ofInt 64 255).toNat = 2 ^ 8 - 1 := by decide
  have hx : (BitVec.ofInt 64 x).toNat = (x % 18446744073709551616).toNat := by simp
  have : bits .and .i64 x 255 = IntKind.i64.wrap (((BitVec.ofInt 64 x).toNat &&& (BitVec.ofInt 64 255).toNat : Nat) : Int) := by
    simp only [bits, BitVec.toNat_and]
    rfl
  rw [this, h7, Nat.and_two_pow_sub_one_eq_mod, hx, IntKind.wrap_i64]
  omega
end Go.Proofs.Ytkkmkcobmjdblaa
