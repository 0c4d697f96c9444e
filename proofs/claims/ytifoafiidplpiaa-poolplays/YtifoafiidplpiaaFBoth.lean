/- A file and its device together, apart from some other blocks: the laws as a law's walk uses them. -/
import Derived.Test.YtifoafiidplpiaaFPage
namespace Go.Proofs.Ytifoafiidplpiaa
open Go.RowKit
set_option linter.unusedVariables false
set_option linter.unusedSimpArgs false

/-- The device at p, all its blocks new since w0, apart from the blocks xs. -/
structure DevB (w0 w : World) (p : Nat) (xs fp : List Nat) (D : Dv) : Prop where
  dev : DevAt w p fp D
  f0 : ∀ k ∈ fp, w0.heap.size ≤ k
  xs : ∀ k ∈ xs, k < w.heap.size ∧ k ∉ fp
  below : Below w0.heap.size w0 w
def DevX (w0 w : World) (p : Nat) (xs : List Nat) (D : Dv) : Prop := ∃ fp, DevB w0 w p xs fp D
/-- .. and a file on it. -/
structure FsIs (w0 w : World) (q p fr n : Nat) (failed : Bool) (xs fp : List Nat) (D : Dv) : Prop where
  fl : FileAt w q p fr n failed
  dv : DevB w0 w p xs fp D
  nq : q ∉ fp
  q0 : w0.heap.size ≤ q
  qx : q ∉ xs
def Fs (w0 w : World) (q p fr n : Nat) (failed : Bool) (xs : List Nat) (D : Dv) : Prop := ∃ fp, FsIs w0 w q p fr n failed xs fp D
/-- The blocks xs are as they were. -/
def Kept (xs : List Nat) (w w' : World) : Prop := w.heap.size ≤ w'.heap.size ∧ ∀ k ∈ xs, w'.heap[k]? = w.heap[k]?
theorem Kept.refl (xs : List Nat) (w : World) : Kept xs w w := ⟨Nat.le_refl _, fun _ _ => rfl⟩
theorem Kept.trans {xs : List Nat} {a b c : World} (h : Kept xs a b) (k : Kept xs b c) : Kept xs a c := ⟨Nat.le_trans h.1 k.1, fun i hi => (k.2 i hi).trans (h.2 i hi)⟩

section
variable {w0 w w' : World} {q p fr n : Nat} {failed failed' : Bool} {xs : List Nat} {D D' : Dv}
/-- The device steps. -/
theorem DevB.step {fp fp' : List Nat} (x : DevB w0 w p xs fp D) (hO : Off fp w w') (hD : DevAt w' p fp' D') (hF : ∀ k ∈ fp', k ∈ fp ∨ w.heap.size ≤ k) : DevB w0 w' p xs fp' D' ∧ Kept xs w w' := by
  have hsz := x.below.size
  refine ⟨⟨hD, fun k hk => ?_, fun k hk => ⟨Nat.lt_of_lt_of_le (x.xs k hk).1 hO.size, fun hm => ?_⟩, x.below.trans (hO.below hsz x.f0)⟩, hO.size, fun k hk => hO.block k (x.xs k hk).1 (x.xs k hk).2⟩
  · rcases hF k hk with h1 | h1
    · exact x.f0 k h1
    · omega
  · rcases hF k hm with h1 | h1
    · exact (x.xs k hk).2 h1
    · have := (x.xs k hk).1; omega
theorem DevB.belowW {fp : List Nat} (x : DevB w0 w p xs fp D) (hb : Below w.heap.size w w') : DevB w0 w' p xs fp D := (x.step (Off.of_below hb fp) (x.dev.below hb) (fun k hk => .inl hk)).1
theorem DevX.belowW (h : DevX w0 w p xs D) (hb : Below w.heap.size w w') : DevX w0 w' p xs D := let ⟨_, x⟩ := h; ⟨_, x.belowW hb⟩
theorem DevX.below (h : DevX w0 w p xs D) : Below w0.heap.size w0 w := let ⟨_, x⟩ := h; x.below
theorem DevX.wf (h : DevX w0 w p xs D) : D.wf := let ⟨_, x⟩ := h; x.dev.wf
theorem DevX.mind (h : DevX w0 w p xs D) {ys : List Nat} (hy : ∀ k ∈ ys, k ∈ xs ∨ (k < w0.heap.size)) : DevX w0 w p ys D := by
  obtain ⟨fp, x⟩ := h
  refine ⟨fp, x.dev, x.f0, fun k hk => ?_, x.below⟩
  rcases hy k hk with h1 | h1
  · exact x.xs k h1
  · exact ⟨Nat.lt_of_lt_of_le h1 x.below.size, fun hm => by have := x.f0 k hm; omega⟩
theorem DevX.mindNew (h : DevX w0 w p xs D) (hb : Below w.heap.size w w') {ys : List Nat} (hy : ∀ k ∈ ys, k ∈ xs ∨ (w.heap.size ≤ k ∧ k < w'.heap.size)) : DevX w0 w' p ys D := by
  obtain ⟨fp, x⟩ := h
  have y := x.belowW hb
  refine ⟨fp, y.dev, y.f0, fun k hk => ?_, y.below⟩
  rcases hy k hk with h1 | h1
  · exact y.xs k h1
  · exact ⟨h1.2, fun hm => by have := x.dev.lim k hm; omega⟩
theorem FsIs.belowW {fp : List Nat} (x : FsIs w0 w q p fr n failed xs fp D) (hb : Below w.heap.size w w') : FsIs w0 w' q p fr n failed xs fp D := ⟨x.fl.below hb, x.dv.belowW hb, x.nq, x.q0, x.qx⟩
theorem Fs.belowW (h : Fs w0 w q p fr n failed xs D) (hb : Below w.heap.size w w') : Fs w0 w' q p fr n failed xs D := let ⟨_, x⟩ := h; ⟨_, x.belowW hb⟩
theorem Fs.drewN (h : Fs w0 w q p fr n failed xs D) (m : Nat) : Fs w0 (w.drewN m) q p fr n failed xs D := h.belowW (below_drewN _ _ m)
theorem Fs.below (h : Fs w0 w q p fr n failed xs D) : Below w0.heap.size w0 w := let ⟨_, x⟩ := h; x.dv.below
theorem Fs.wf (h : Fs w0 w q p fr n failed xs D) : D.wf := let ⟨_, x⟩ := h; x.dv.dev.wf
theorem Fs.devX (h : Fs w0 w q p fr n failed xs D) : DevX w0 w p xs D := let ⟨_, x⟩ := h; ⟨_, x.dv⟩
theorem Fs.q0 (h : Fs w0 w q p fr n failed xs D) : w0.heap.size ≤ q := let ⟨_, x⟩ := h; x.q0
theorem Fs.mind (h : Fs w0 w q p fr n failed xs D) {ys : List Nat} (hy : ∀ k ∈ ys, k ∈ xs ∨ (k < w0.heap.size)) : Fs w0 w q p fr n failed ys D := by
  obtain ⟨fp, x⟩ := h
  refine ⟨fp, x.fl, ⟨x.dv.dev, x.dv.f0, fun k hk => ?_, x.dv.below⟩, x.nq, x.q0, fun hm => ?_⟩
  · rcases hy k hk with h1 | h1
    · exact x.dv.xs k h1
    · exact ⟨Nat.lt_of_lt_of_le h1 x.dv.below.size, fun hm => by have := x.dv.f0 k hm; omega⟩
  · rcases hy q hm with h1 | h1
    · exact x.qx h1
    · have := x.q0; omega
theorem Fs.mindNew (h : Fs w0 w q p fr n failed xs D) (hb : Below w.heap.size w w') {ys : List Nat} (hy : ∀ k ∈ ys, k ∈ xs ∨ (w.heap.size ≤ k ∧ k < w'.heap.size)) : Fs w0 w' q p fr n failed ys D := by
  obtain ⟨fp, x⟩ := h
  have y := x.belowW hb
  refine ⟨fp, y.fl, ⟨y.dv.dev, y.dv.f0, fun k hk => ?_, y.dv.below⟩, y.nq, y.q0, fun hm => ?_⟩
  · rcases hy k hk with h1 | h1
    · exact y.dv.xs k h1
    · exact ⟨h1.2, fun hm => by have := x.dv.dev.lim k hm; omega⟩
  · rcases hy q hm with h1 | h1
    · exact y.qx h1
    · have := x.fl.lt; omega
/-- A file stands while a block that is apart is written. -/
theorem Fs.write {g : Nat} (h : Fs w0 w q p fr n failed xs D) (hg : g ∈ xs) (hg0 : w0.heap.size ≤ g) (hO : Off [g] w w') : Fs w0 w' q p fr n failed xs D := by
  obtain ⟨fp, x⟩ := h
  have hgf := (x.dv.xs g hg).2
  refine ⟨fp, x.fl.off hO (fun hm => by simp at hm; exact x.qx (hm ▸ hg)), ⟨x.dv.dev.apart hO (fun k hk hm => by simp at hm; exact hgf (hm ▸ hk)), x.dv.f0, fun k hk => ⟨Nat.lt_of_lt_of_le (x.dv.xs k hk).1 hO.size, (x.dv.xs k hk).2⟩, ?_⟩, x.nq, x.q0, x.qx⟩
  exact x.dv.below.trans (hO.below x.dv.below.size (fun k hk => by simp at hk; rw [hk]; exact hg0))

theorem b_new (n : Nat) (w : World) (h1 : 1 ≤ n) (h2 : n ≤ 8192) :
    Calls Try.prog 6 #[.int .i64 (n : Int)] w fun e w' => ∃ p, e = .returned (.tuple #[.pointer (some ⟨p, 0, none⟩), .int .i64 0]) ∧ DevX w w' p [] (Dv.fresh n) := by
  refine (new_dev n w h1 h2).mono ?_
  rintro e w' ⟨rfl, hD, hB⟩
  exact ⟨_, rfl, [w.heap.size, w.heap.size + 1], hD, fun k hk => by simp at hk; omega, fun k hk => by simp at hk, hB⟩
theorem b_openArg (a b : Int) (h : DevX w0 w p xs D) (ha1 : -9223372036854775808 ≤ a) (ha2 : a ≤ 9223372036854775807) (hx : ¬ (1 ≤ b ∧ 0 ≤ a ∧ a + 5 + 4 * b ≤ (D.L.length : Int))) :
    Calls Try.prog 7 #[.pointer (some ⟨p, 0, none⟩), .int .i64 a, .int .i64 b] w fun e w' => e = .returned (.tuple #[.pointer none, .int .i64 1]) ∧ w' = w := let ⟨_, x⟩ := h; open_arg a b x.dev ha1 ha2 hx
theorem b_open (fr n : Nat) (h : DevX w0 w p xs D) (hn : 1 ≤ n) (hW : D.W.length ≤ 700000) (hfr : fr + 5 + 4 * n ≤ D.L.length) :
    Calls Try.prog 7 #[.pointer (some ⟨p, 0, none⟩), .int .i64 (fr : Int), .int .i64 (n : Int)] w fun e w' => ∃ q, e = .returned (.tuple #[.pointer (if (D.mend fr n).1 = 0 then some ⟨q, 0, none⟩ else none), .int .i64 (D.mend fr n).1]) ∧
      Fs w0 w' q p fr n false xs (D.mend fr n).2 ∧ Kept xs w w' := by
  obtain ⟨fp, x⟩ := h
  refine (open_go x.dev hn hW hfr).mono ?_
  rintro e w' ⟨rfl, fp', h1, h2, h3, h4, h5⟩
  obtain ⟨r1, r2⟩ := x.step h3 h2 h4
  exact ⟨_, rfl, ⟨fp', h1, r1, h5, x.below.size, fun hm => by have := (x.xs _ hm).1; omega⟩, r2⟩
theorem b_openOk {E : Dv} (fr n : Nat) (h : DevX w0 w p xs D) (hn : 1 ≤ n) (hW : D.W.length ≤ 700000) (hfr : fr + 5 + 4 * n ≤ D.L.length) (hm : D.mend fr n = (0, E)) :
    Calls Try.prog 7 #[.pointer (some ⟨p, 0, none⟩), .int .i64 (fr : Int), .int .i64 (n : Int)] w fun e w' => ∃ q, e = .returned (.tuple #[.pointer (some ⟨q, 0, none⟩), .int .i64 0]) ∧
      Fs w0 w' q p fr n false xs E ∧ Kept xs w w' := by
  have := b_open fr n h hn hW hfr
  rw [hm] at this
  exact this
theorem b_openNo {x : Int} {E : Dv} (fr n : Nat) (h : DevX w0 w p xs D) (hn : 1 ≤ n) (hW : D.W.length ≤ 700000) (hfr : fr + 5 + 4 * n ≤ D.L.length) (hm : D.mend fr n = (x, E)) (hx : x ≠ 0) :
    Calls Try.prog 7 #[.pointer (some ⟨p, 0, none⟩), .int .i64 (fr : Int), .int .i64 (n : Int)] w fun e w' => e = .returned (.tuple #[.pointer none, .int .i64 x]) ∧ DevX w0 w' p xs E ∧ Kept xs w w' := by
  have := b_open fr n h hn hW hfr
  rw [hm] at this
  refine this.mono ?_
  rintro e w' ⟨q, rfl, h1, h2⟩
  rw [if_neg (show ¬ (x, E).1 = 0 from hx)]
  exact ⟨rfl, h1.devX, h2⟩
theorem b_pages (h : Fs w0 w q p fr n failed xs D) : Calls Try.prog 34 #[.pointer (some ⟨q, 0, none⟩)] w fun e w' => e = .returned (.int .i64 (n : Int)) ∧ w' = w := let ⟨_, x⟩ := h; pages_any x.fl
theorem b_size (h : DevX w0 w p xs D) : Calls Try.prog 27 #[.pointer (some ⟨p, 0, none⟩)] w fun e w' => e = .returned (.int .i64 (D.L.length : Int)) ∧ w' = w := let ⟨_, x⟩ := h; size_dev p w _ D x.dev
theorem b_writeFailed (i : Int) (ao : Option Addr) (m c : Nat) (h : Fs w0 w q p fr n true xs D) :
    Calls Try.prog 49 #[.pointer (some ⟨q, 0, none⟩), .int .i64 i, .slice ao m c] w fun e w' => e = .returned (.int .i64 50) ∧ w' = w := let ⟨_, x⟩ := h; fwrite_failed i ao m c x.fl
theorem b_writeArg (i : Int) (ao : Option Addr) (m c : Nat) (h : Fs w0 w q p fr n false xs D) (hx : (i < 0 ∨ (n : Int) ≤ i) ∨ m ≠ 512) :
    Calls Try.prog 49 #[.pointer (some ⟨q, 0, none⟩), .int .i64 i, .slice ao m c] w fun e w' => e = .returned (.int .i64 1) ∧ w' = w := let ⟨_, x⟩ := h; fwrite_arg i ao m c x.fl hx
theorem b_write (i g c : Nat) (bs : List UInt8) (h : Fs w0 w q p fr n false xs D) (hl : bs.length = 512) (hc : 512 ≤ c) (hg : g ∈ xs) (hs : w.heap[g]? = some (.cells (secCells bs).toArray 5 (0, 0))) (hW : D.W.length ≤ 800000) (hfr : fr + 5 + 4 * n ≤ D.L.length) (hi : i < n) :
    Calls Try.prog 49 #[.pointer (some ⟨q, 0, none⟩), .int .i64 (i : Int), .slice (some ⟨g, 0, none⟩) 512 c] w fun e w' => e = .returned (.int .i64 (D.carJ fr i bs).1) ∧
      Fs w0 w' q p fr n ((D.carJ fr i bs).1 != 0) xs (D.carJ fr i bs).2 ∧ Kept xs w w' := by
  obtain ⟨fp, x⟩ := h
  have hmax := x.dv.dev.wf.max
  refine (fwrite_go i g c bs hl hc x.fl x.dv.dev x.nq (SrcAt.block hs) (x.dv.xs g hg).2 hW (by omega) hi (by omega)).mono ?_
  rintro e w' ⟨rfl, fp', h1, h2, h3, h4, h5⟩
  have hsz := x.dv.below.size
  refine ⟨rfl, ⟨fp', h1, ⟨h2, fun k hk => ?_, fun k hk => ⟨Nat.lt_of_lt_of_le (x.dv.xs k hk).1 h3.size, fun hm => ?_⟩, x.dv.below.trans (h3.below hsz (fun k hk => ?_))⟩, h5, x.q0, x.qx⟩, h3.size, fun k hk => h3.block k (x.dv.xs k hk).1 (fun hm => ?_)⟩
  · rcases h4 k hk with h6 | h6
    · exact x.dv.f0 k h6
    · omega
  · rcases h4 k hm with h6 | h6
    · exact (x.dv.xs k hk).2 h6
    · have := (x.dv.xs k hk).1; omega
  · rcases List.mem_cons.1 hk with h6 | h6
    · rw [h6]; exact x.q0
    · exact x.dv.f0 k h6
  · rcases List.mem_cons.1 hm with h6 | h6
    · exact x.qx (h6 ▸ hk)
    · exact (x.dv.xs k hk).2 h6
theorem b_readArg (i : Int) (h : Fs w0 w q p fr n failed xs D) (hx : i < 0 ∨ (n : Int) ≤ i) :
    Calls Try.prog 11 #[.pointer (some ⟨q, 0, none⟩), .int .i64 i] w fun e w' => e = .returned (.tuple #[.slice none 0 0, .int .i64 1]) ∧ w' = w := let ⟨_, x⟩ := h; fread_arg i x.fl hx
theorem b_readDead (i : Nat) (h : Fs w0 w q p fr n failed xs D) (hd : D.dead = true) (hW : D.W.length ≤ 900000) (hfr : fr + 5 + 4 * n ≤ D.L.length) (hi : i < n) :
    Calls Try.prog 11 #[.pointer (some ⟨q, 0, none⟩), .int .i64 (i : Int)] w fun e w' => e = .returned (.tuple #[.slice none 0 0, .int .i64 50]) ∧ Fs w0 w' q p fr n failed xs D ∧ Kept xs w w' := by
  have h' := h
  obtain ⟨fp, x⟩ := h
  have hmax := x.dv.dev.wf.max
  refine (fread_dead i x.fl x.dv.dev x.nq hd hW (by omega) hi (by omega)).mono ?_
  rintro e w' ⟨rfl, hb⟩
  exact ⟨rfl, h'.belowW hb, hb.size, fun k hk => hb.block k (x.dv.xs k hk).1⟩
theorem b_read (i : Nat) (h : Fs w0 w q p fr n failed xs D) (hd : D.dead = false) (hW : D.W.length ≤ 900000) (hfr : fr + 5 + 4 * n ≤ D.L.length) (hi : i < n) :
    Calls Try.prog 11 #[.pointer (some ⟨q, 0, none⟩), .int .i64 (i : Int)] w fun e w' => ∃ g, e = .returned (.tuple #[.slice (some ⟨g, 0, none⟩) 512 512, .int .i64 0]) ∧ w.heap.size ≤ g ∧
      w'.heap[g]? = some (.cells (secCells (D.four (fr + 5 + 4 * i))).toArray 5 (0, 0)) ∧ Fs w0 w' q p fr n failed (g :: xs) (D.more 4) ∧ Kept xs w w' := by
  obtain ⟨fp, x⟩ := h
  refine (fread_ok i x.fl x.dv.dev x.nq hd hW hfr hi).mono ?_
  rintro e w' ⟨rfl, h1, h2, h3⟩
  obtain ⟨r1, r2⟩ := x.dv.step h3 h2 (fun k hk => .inl hk)
  have hlt := (Array.getElem?_eq_some_iff.1 h1).1
  refine ⟨_, rfl, Nat.le_refl _, h1, ⟨fp, x.fl.off h3 x.nq, ⟨r1.dev, r1.f0, fun k hk => ?_, r1.below⟩, x.nq, x.q0, fun hm => ?_⟩, r2⟩
  · rcases List.mem_cons.1 hk with h6 | h6
    · rw [h6]; exact ⟨hlt, fun hm => by have := x.dv.dev.lim _ hm; omega⟩
    · exact r1.xs k h6
  · rcases List.mem_cons.1 hm with h6 | h6
    · have := x.fl.lt; omega
    · exact x.qx h6
end
end Go.Proofs.Ytifoafiidplpiaa
