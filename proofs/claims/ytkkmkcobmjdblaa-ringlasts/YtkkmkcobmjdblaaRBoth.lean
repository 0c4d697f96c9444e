/- A ring and its device together, apart from some other blocks: the laws as a law's walk uses them. -/
import Derived.Test.YtkkmkcobmjdblaaRWell
namespace Go.Proofs.Ytkkmkcobmjdblaa
open Go.RowKit
set_option linter.unusedVariables false
set_option linter.unusedSimpArgs false

/-- The device at p, all its blocks new since w0, apart from the blocks xs. -/
structure DevB (w0 w : World) (p : Nat) (xs fp : List Nat) (D : Dv) : Prop where
  dev : DevC w p fp D
  f0 : ∀ k ∈ fp, w0.heap.size ≤ k
  xs : ∀ k ∈ xs, k < w.heap.size ∧ k ∉ fp
  below : Below w0.heap.size w0 w
/-- .. and a ring on it. -/
structure BothIs (w0 w : World) (q p : Nat) (xs gp fp : List Nat) (R : Rg) (D : Dv) : Prop where
  rg : RgAt w q p gp R
  dv : DevB w0 w p xs fp D
  dis : ∀ k ∈ gp, k ∉ fp
  g0 : ∀ k ∈ gp, w0.heap.size ≤ k
  gx : ∀ k ∈ xs, k ∉ gp
def Both (w0 w : World) (q p : Nat) (xs : List Nat) (R : Rg) (D : Dv) : Prop := ∃ gp fp, BothIs w0 w q p xs gp fp R D
def DevX (w0 w : World) (p : Nat) (xs : List Nat) (D : Dv) : Prop := ∃ fp, DevB w0 w p xs fp D
/-- The blocks xs are as they were. -/
def Kept (xs : List Nat) (w w' : World) : Prop := w.heap.size ≤ w'.heap.size ∧ ∀ k ∈ xs, w'.heap[k]? = w.heap[k]?
theorem Kept.refl (xs : List Nat) (w : World) : Kept xs w w := ⟨Nat.le_refl _, fun _ _ => rfl⟩
theorem Kept.trans {xs : List Nat} {a b c : World} (h : Kept xs a b) (k : Kept xs b c) : Kept xs a c := ⟨Nat.le_trans h.1 k.1, fun i hi => (k.2 i hi).trans (h.2 i hi)⟩

theorem rg_lim {w : World} {q p : Nat} {gp : List Nat} {R : Rg} (h : RgAt w q p gp R) : ∀ k ∈ gp, k < w.heap.size := let ⟨_, x⟩ := h; x.lim

section
variable {w0 w w' : World} {q p : Nat} {xs : List Nat} {R R' : Rg} {D D' : Dv}
/-- What a step of the ring leaves. -/
theorem BothIs.step {gp fp gp' fp' : List Nat} (h : BothIs w0 w q p xs gp fp R D) (hO : Off (gp ++ fp) w w') (hR : RgAt w' q p gp' R') (hD : DevC w' p fp' D') (hG : ∀ k ∈ gp', k ∈ gp ∨ w.heap.size ≤ k) (hF : ∀ k ∈ fp', k ∈ fp ∨ w.heap.size ≤ k)
    (hd : ∀ k ∈ gp', k ∉ fp') : BothIs w0 w' q p xs gp' fp' R' D' ∧ Kept xs w w' := by
  have hsz := h.dv.below.size
  refine ⟨⟨hR, ⟨hD, fun k hk => ?_, fun k hk => ⟨Nat.lt_of_lt_of_le (h.dv.xs k hk).1 hO.size, fun hm => ?_⟩, ?_⟩, hd, fun k hk => ?_, fun k hk hm => ?_⟩, hO.size, fun k hk => ?_⟩
  · rcases hF k hk with h1 | h1
    · exact h.dv.f0 k h1
    · omega
  · rcases hF k hm with h1 | h1
    · exact (h.dv.xs k hk).2 h1
    · have := (h.dv.xs k hk).1; omega
  · exact h.dv.below.trans (hO.below hsz (fun k hk => by
      rcases List.mem_append.1 hk with h1 | h1
      · exact h.g0 k h1
      · exact h.dv.f0 k h1))
  · rcases hG k hk with h1 | h1
    · exact h.g0 k h1
    · omega
  · rcases hG k hm with h1 | h1
    · exact h.gx k hk h1
    · have := (h.dv.xs k hk).1; omega
  · exact hO.block k (h.dv.xs k hk).1 (fun hm => by
      rcases List.mem_append.1 hm with h1 | h1
      · exact h.gx k hk h1
      · exact (h.dv.xs k hk).2 h1)
theorem BothIs.belowW {gp fp : List Nat} (h : BothIs w0 w q p xs gp fp R D) (hb : Below w.heap.size w w') : BothIs w0 w' q p xs gp fp R D :=
  (h.step (Off.of_below hb _) (h.rg.below hb) (h.dv.dev.below hb) (fun k hk => .inl hk) (fun k hk => .inl hk) h.dis).1
theorem Both.belowW (h : Both w0 w q p xs R D) (hb : Below w.heap.size w w') : Both w0 w' q p xs R D := let ⟨_, _, x⟩ := h; ⟨_, _, x.belowW hb⟩
theorem Both.drewN (h : Both w0 w q p xs R D) (m : Nat) : Both w0 (w.drewN m) q p xs R D := h.belowW (below_drewN _ _ m)
theorem Both.below (h : Both w0 w q p xs R D) : Below w0.heap.size w0 w := let ⟨_, _, x⟩ := h; x.dv.below
theorem Both.wf (h : Both w0 w q p xs R D) : R.wf := let ⟨_, _, x⟩ := h; x.rg.wf
theorem Both.dwf (h : Both w0 w q p xs R D) : D.wf := let ⟨_, _, x⟩ := h; x.dv.dev.wf
/-- Other blocks to mind. -/
theorem Both.mind (h : Both w0 w q p xs R D) {ys : List Nat} (hy : ∀ k ∈ ys, k ∈ xs ∨ (k < w0.heap.size)) : Both w0 w q p ys R D := by
  obtain ⟨gp, fp, x⟩ := h
  refine ⟨gp, fp, x.rg, ⟨x.dv.dev, x.dv.f0, fun k hk => ?_, x.dv.below⟩, x.dis, x.g0, fun k hk hm => ?_⟩
  · rcases hy k hk with h1 | h1
    · exact x.dv.xs k h1
    · exact ⟨Nat.lt_of_lt_of_le h1 x.dv.below.size, fun hm => by have := x.dv.f0 k hm; omega⟩
  · rcases hy k hk with h1 | h1
    · exact x.gx k h1 hm
    · have := x.g0 k hm; omega
/-- A block that is new since a world at which the ring and its device stood. -/
theorem Both.mindNew (h : Both w0 w q p xs R D) (hb : Below w.heap.size w w') {ys : List Nat} (hy : ∀ k ∈ ys, k ∈ xs ∨ (w.heap.size ≤ k ∧ k < w'.heap.size)) : Both w0 w' q p ys R D := by
  obtain ⟨gp, fp, x⟩ := h
  have y := x.belowW hb
  refine ⟨gp, fp, y.rg, ⟨y.dv.dev, y.dv.f0, fun k hk => ?_, y.dv.below⟩, y.dis, y.g0, fun k hk hm => ?_⟩
  · rcases hy k hk with h1 | h1
    · exact y.dv.xs k h1
    · exact ⟨h1.2, fun hm => by have := x.dv.dev.lim k hm; omega⟩
  · rcases hy k hk with h1 | h1
    · exact y.gx k h1 hm
    · have := rg_lim x.rg k hm; omega

theorem b_start (h : Both w0 w q p xs R D) : Calls Try.prog 28 #[.pointer (some ⟨q, 0, none⟩)] w fun e w' => e = .returned (.int .i64 R.start) ∧ w' = w := let ⟨_, _, x⟩ := h; start_any x.rg
theorem b_end (h : Both w0 w q p xs R D) : Calls Try.prog 10 #[.pointer (some ⟨q, 0, none⟩)] w fun e w' => e = .returned (.int .i64 R.fin) ∧ w' = w := let ⟨_, _, x⟩ := h; end_any x.rg
theorem b_tail (h : Both w0 w q p xs R D) : Calls Try.prog 29 #[.pointer (some ⟨q, 0, none⟩)] w fun e w' => e = .returned (.int .i64 (R.tail : Nat)) ∧ ∃ m, w' = w.drewN m := let ⟨_, _, x⟩ := h; tail_any x.rg
theorem b_room (h : Both w0 w q p xs R D) : Calls Try.prog 30 #[.pointer (some ⟨q, 0, none⟩)] w fun e w' => e = .returned (.int .i64 (R.room : Nat)) ∧ ∃ m, w' = w.drewN m := let ⟨_, _, x⟩ := h; room_any x.rg
theorem b_full {ao : Option Addr} {n c : Nat} (h : Both w0 w q p xs R D) (hf : R.failed = false) (hr : R.room < n) :
    Calls Try.prog 12 #[.pointer (some ⟨q, 0, none⟩), .slice ao n c] w fun e w' => e = .returned (.int .i64 60) ∧ ∃ m, w' = w.drewN m := let ⟨_, _, x⟩ := h; append_full x.rg hf hr
theorem b_append {ao : Option Addr} {c : Nat} {bs : List UInt8} (h : Both w0 w q p xs R D) (hf : R.failed = false) (hr : bs.length ≤ R.room) (hx : Sl w (.slice ao bs.length c) bs) :
    Calls Try.prog 12 #[.pointer (some ⟨q, 0, none⟩), .slice ao bs.length c] w fun e w' => e = .returned (.int .i64 0) ∧ Both w0 w' q p xs { R with held := R.held ++ bs } D ∧ Kept xs w w' := by
  obtain ⟨gp, fp, x⟩ := h
  refine (append_ok x.rg hf hr hx).mono ?_
  rintro e w' ⟨rfl, gp', h1, h2, h3⟩
  have hdis : ∀ k ∈ gp', k ∉ fp := fun k hk hm => by
    rcases h3 k hk with h4 | h4
    · exact x.dis k h4 hm
    · have := x.dv.dev.lim k hm; omega
  obtain ⟨r1, r2⟩ := x.step (h2.mono (fun k hk => List.mem_append_left fp hk)) h1 (x.dv.dev.apart h2 (fun k hk hm => x.dis k hm hk)) h3 (fun k hk => .inl hk) hdis
  exact ⟨rfl, ⟨_, _, r1⟩, r2⟩
theorem b_trim (pos : Nat) (h : Both w0 w q p xs R D) (h1 : R.start ≤ pos) (h2 : pos ≤ R.fin) (h3 : pos ≤ 2199023255552) :
    Calls Try.prog 20 #[.pointer (some ⟨q, 0, none⟩), .int .i64 (pos : Int)] w fun e w' => e = .returned (.int .i64 0) ∧ Both w0 w' q p xs { R with start := pos, held := R.held.drop (pos - R.start) } D ∧ Kept xs w w' := by
  obtain ⟨gp, fp, x⟩ := h
  refine (trim_ok pos x.rg h1 h2 h3).mono ?_
  rintro e w' ⟨rfl, a1, a2⟩
  obtain ⟨r1, r2⟩ := x.step (a2.mono (fun k hk => List.mem_append_left fp hk)) a1 (x.dv.dev.apart a2 (fun k hk hm => x.dis k hm hk)) (fun k hk => .inl hk) (fun k hk => .inl hk) x.dis
  exact ⟨rfl, ⟨_, _, r1⟩, r2⟩
theorem b_trimNot (pos : Nat) (h : Both w0 w q p xs R D) (h1 : R.fin < pos) :
    Calls Try.prog 20 #[.pointer (some ⟨q, 0, none⟩), .int .i64 (pos : Int)] w fun e w' => e = .returned (.int .i64 1) ∧ w' = w := let ⟨_, _, x⟩ := h; trim_arg pos x.rg h1
theorem b_read (pos k : Nat) (h : Both w0 w q p xs R D) (h1 : R.start ≤ pos) (h2 : pos + k ≤ R.tail) :
    Calls Try.prog 13 #[.pointer (some ⟨q, 0, none⟩), .int .i64 (pos : Int), .int .i64 (k : Int)] w fun e w' => ∃ g, e = .returned (.tuple #[.slice (some ⟨g, 0, none⟩) k k, .int .i64 0]) ∧ w.heap.size ≤ g ∧
      w'.heap[g]? = some (.cells (secCells ((R.held.drop (pos - R.start)).take k)).toArray 5 (0, 0)) ∧ Below w.heap.size w w' := let ⟨_, _, x⟩ := h; rread_ok pos k x.rg h1 h2
theorem b_flush (h : Both w0 w q p xs R D) (hw : D.well) (hn : R.fr + R.n ≤ D.L.length) (hm : D.W = []) (hf : R.failed = false) :
    Calls Try.prog 14 #[.pointer (some ⟨q, 0, none⟩)] w fun e w' => e = .returned (.int .i64 0) ∧
      ∃ D', Both w0 w' q p xs { R with fin := R.tail } D' ∧ Kept xs w w' ∧ D'.well ∧ D'.L.length = D.L.length ∧ D'.W = [] ∧ (R.fin ≠ R.tail → D' = (R.flushD D).2) ∧ (R.fin = R.tail → D' = D) := by
  obtain ⟨gp, fp, x⟩ := h
  refine (flush_well x.rg x.dv.dev x.dis hw hn hm hf).mono ?_
  rintro e w' ⟨rfl, fp', D', a1, a2, a3, a4, a5, a6, a7, a8, a9, a10⟩
  have hdis : ∀ k ∈ gp, k ∉ fp' := fun k hk hm => by
    rcases a10 k hm with h4 | h4
    · exact x.dis k hk h4
    · have := rg_lim x.rg k hk; omega
  obtain ⟨r1, r2⟩ := x.step a9 a1 a2 (fun k hk => .inl hk) a10 hdis
  exact ⟨rfl, D', ⟨_, _, r1⟩, r2, a3, a4, a5, a7, a8⟩
/-- Flush that may fail. -/
theorem b_flushes (h : Both w0 w q p xs R D) (live : D.dead = false) (hn : R.fr + R.n ≤ D.L.length) (hm : D.W.length ≤ 100000) (hf : R.failed = false) (he : R.fin ≠ R.tail) :
    Calls Try.prog 14 #[.pointer (some ⟨q, 0, none⟩)] w fun e w' => e = .returned (.int .i64 (R.flushD D).1) ∧ DevX w0 w' p xs (R.flushD D).2 ∧ Kept xs w w' := by
  obtain ⟨gp, fp, x⟩ := h
  refine (flush_lays x.rg x.dv.dev x.dis live hn hm hf he).mono ?_
  rintro e w' ⟨rfl, fp', a1, a2, a3, a4⟩
  have hdis : ∀ k ∈ gp, k ∉ fp' := fun k hk hm => by
    rcases a4 k hm with h4 | h4
    · exact x.dis k hk h4
    · have := rg_lim x.rg k hk; omega
  obtain ⟨r1, r2⟩ := x.step a3 a1 a2 (fun k hk => .inl hk) a4 hdis
  exact ⟨rfl, ⟨_, r1.dv⟩, r2⟩
theorem b_idle (h : Both w0 w q p xs R D) (hf : R.failed = false) (he : R.fin = R.tail) :
    Calls Try.prog 14 #[.pointer (some ⟨q, 0, none⟩)] w fun e w' => e = .returned (.int .i64 0) ∧ ∃ m, w' = w.drewN m := let ⟨_, _, x⟩ := h; flush_nothing x.rg hf he
theorem b_pending (h : Both w0 w q p xs R D) : Calls Try.prog 33 #[.pointer (some ⟨p, 0, none⟩)] w fun e w' => e = .returned (.int .i64 (D.W.length : Int)) ∧ w' = w := let ⟨_, _, x⟩ := h; pending_c x.dv.dev
theorem Both.devX (h : Both w0 w q p xs R D) : DevX w0 w p xs D := let ⟨_, fp, x⟩ := h; ⟨fp, x.dv⟩
theorem DevX.below (h : DevX w0 w p xs D) : Below w0.heap.size w0 w := let ⟨_, x⟩ := h; x.below
theorem DevX.wf (h : DevX w0 w p xs D) : D.wf := let ⟨_, x⟩ := h; x.dev.wf
theorem DevX.belowW (h : DevX w0 w p xs D) (hb : Below w.heap.size w w') : DevX w0 w' p xs D := by
  obtain ⟨fp, x⟩ := h
  refine ⟨fp, x.dev.below hb, x.f0, fun k hk => ⟨Nat.lt_of_lt_of_le (x.xs k hk).1 hb.size, (x.xs k hk).2⟩, ?_⟩
  exact x.below.trans (hb.mono x.below.size)
/-- The device steps. -/
theorem DevB.step {fp fp' : List Nat} (x : DevB w0 w p xs fp D) (hO : Off fp w w') (hD : DevC w' p fp' D') (hF : ∀ k ∈ fp', k ∈ fp ∨ w.heap.size ≤ k) : DevX w0 w' p xs D' ∧ Kept xs w w' := by
  have hsz := x.below.size
  refine ⟨⟨fp', hD, fun k hk => ?_, fun k hk => ⟨Nat.lt_of_lt_of_le (x.xs k hk).1 hO.size, fun hm => ?_⟩, x.below.trans (hO.below hsz x.f0)⟩, hO.size, fun k hk => hO.block k (x.xs k hk).1 (x.xs k hk).2⟩
  · rcases hF k hk with h1 | h1
    · exact x.f0 k h1
    · omega
  · rcases hF k hm with h1 | h1
    · exact (x.xs k hk).2 h1
    · have := (x.xs k hk).1; omega
theorem b_new (n : Nat) (w : World) (h1 : 1 ≤ n) (h2 : n ≤ 8192) :
    Calls Try.prog 8 #[.int .i64 (n : Int)] w fun e w' => ∃ p, e = .returned (.tuple #[.pointer (some ⟨p, 0, none⟩), .int .i64 0]) ∧ DevX w w' p [] (Dv.fresh n) := by
  refine (new_dev n w h1 h2).mono ?_
  rintro e w' ⟨rfl, hD, hB⟩
  exact ⟨_, rfl, [w.heap.size, w.heap.size + 1], hD.toC, fun k hk => by simp at hk; omega, fun k hk => by simp at hk, hB⟩
theorem DevX.mind (h : DevX w0 w p xs D) {ys : List Nat} (hy : ∀ k ∈ ys, k ∈ xs ∨ (k < w0.heap.size)) : DevX w0 w p ys D := by
  obtain ⟨fp, x⟩ := h
  refine ⟨fp, x.dev, x.f0, fun k hk => ?_, x.below⟩
  rcases hy k hk with h1 | h1
  · exact x.xs k h1
  · exact ⟨Nat.lt_of_lt_of_le h1 x.below.size, fun hm => by have := x.f0 k hm; omega⟩
theorem b_open (fr n start : Nat) (h : DevX w0 w p xs D) (live : D.dead = false) (hn : fr + n ≤ D.L.length) (hm : D.W.length < 1000000) (h2 : 2 ≤ n) (h8 : n ≤ 8192) (hs : start ≤ 1099511627776) :
    Calls Try.prog 9 #[.pointer (some ⟨p, 0, none⟩), .int .i64 (fr : Int), .int .i64 (n : Int), .int .i64 (start : Int)] w fun e w' => ∃ q, e = .returned (.tuple #[.pointer (some ⟨q, 0, none⟩), .int .i64 0]) ∧
      Both w0 w' q p xs (Rg.opened D fr n start) D ∧ Kept xs w w' := by
  obtain ⟨fp, x⟩ := h
  refine (open_ok fr n start x.dev live hn hm h2 h8 hs).mono ?_
  rintro e w' ⟨gp, rfl, a1, a2, a3, a4, a5⟩
  obtain ⟨⟨fp', r1⟩, r2⟩ := x.step a3 a2 (fun k hk => .inl hk)
  have hsz := x.below.size
  refine ⟨_, rfl, ⟨gp, fp, a1, ⟨a2, x.f0, fun k hk => ⟨Nat.lt_of_lt_of_le (x.xs k hk).1 a3.size, (x.xs k hk).2⟩, x.below.trans (a3.below hsz x.f0)⟩, a5, fun k hk => by have := a4 k hk; omega, fun k hk hm => by have := a4 k hm; have := (x.xs k hk).1; omega⟩, r2⟩
theorem b_fuse (k : Int) (h : DevX w0 w p xs D) (h1 : -9223372036854775808 ≤ k) (h2 : k ≤ 9223372036854775807) :
    Calls Try.prog 22 #[.pointer (some ⟨p, 0, none⟩), .int .i64 k] w fun e w' => e = .returned (.tuple #[]) ∧ DevX w0 w' p xs { D with fuse := k } ∧ Kept xs w w' := by
  obtain ⟨fp, x⟩ := h
  refine (fuse_c k x.dev h1 h2).mono ?_
  rintro e w' ⟨rfl, a1, a2⟩
  obtain ⟨r1, r2⟩ := x.step a2 a1 (fun k hk => .inl hk)
  exact ⟨rfl, r1, r2⟩
/-- Fuse, the ring standing by. -/
theorem bb_fuse (k : Int) (h : Both w0 w q p xs R D) (h1 : -9223372036854775808 ≤ k) (h2 : k ≤ 9223372036854775807) :
    Calls Try.prog 22 #[.pointer (some ⟨p, 0, none⟩), .int .i64 k] w fun e w' => e = .returned (.tuple #[]) ∧ Both w0 w' q p xs R { D with fuse := k } ∧ Kept xs w w' := by
  obtain ⟨gp, fp, x⟩ := h
  refine (fuse_c k x.dv.dev h1 h2).mono ?_
  rintro e w' ⟨rfl, a1, a2⟩
  obtain ⟨r1, r2⟩ := x.step (a2.mono (fun k hk => List.mem_append_right gp hk)) (x.rg.apart a2 x.dis) a1 (fun k hk => .inl hk) (fun k hk => .inl hk) x.dis
  exact ⟨rfl, ⟨_, _, r1⟩, r2⟩
theorem b_crash (ko : Option Addr) (kc : Nat) (ks : List Bool) (h : DevX w0 w p xs D) (hm : D.W.length < 1000000) (hkl : ks.length ≤ 9223372036854775807) (hks : ∀ fp, (∀ k ∈ fp, w0.heap.size ≤ k) → KeepAt w fp ko ks) :
    Calls Try.prog 26 #[.pointer (some ⟨p, 0, none⟩), .slice ko ks.length kc] w fun e w' => e = .returned (.tuple #[]) ∧ DevX w0 w' p xs (D.crashed ks) ∧ Kept xs w w' := by
  obtain ⟨fp, x⟩ := h
  refine (crash_c ko kc ks x.dev hm hkl (hks fp x.f0)).mono ?_
  rintro e w' ⟨rfl, a1, a2⟩
  obtain ⟨r1, r2⟩ := x.step a2 a1 (fun k hk => .inl hk)
  exact ⟨rfl, r1, r2⟩
end
end Go.Proofs.Ytkkmkcobmjdblaa
