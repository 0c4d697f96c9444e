/- The device, its count of calls left open: 'DevC'. -/
import Derived.Test.YtkkmkcobmjdblaaRRead
namespace Go.Proofs.Ytkkmkcobmjdblaa
open Go.RowKit
set_option linter.unusedVariables false
set_option linter.unusedSimpArgs false

def Dv.wc (D : Dv) (c : Int) : Dv := { D with calls := c }
def DevC (w : World) (p : Nat) (fp : List Nat) (D : Dv) : Prop := ∃ c, DevAt w p fp (D.wc c)
section
variable {w w' : World} {p : Nat} {fp : List Nat} {D : Dv}
theorem DevC.apart (h : DevC w p fp D) {fq : List Nat} (ho : Off fq w w') (hd : ∀ k ∈ fp, k ∉ fq) : DevC w' p fp D := let ⟨c, x⟩ := h; ⟨c, x.apart ho hd⟩
theorem DevC.below (h : DevC w p fp D) (hb : Below w.heap.size w w') : DevC w' p fp D := let ⟨c, x⟩ := h; ⟨c, x.below hb⟩
theorem DevC.drewN (h : DevC w p fp D) (m : Nat) : DevC (w.drewN m) p fp D := let ⟨c, x⟩ := h; ⟨c, x.drewN m⟩
theorem DevAt.toC (h : DevAt w p fp D) : DevC w p fp D := ⟨D.calls, h⟩
theorem DevC.wf (h : DevC w p fp D) : D.wf := by
  obtain ⟨c, _, _, _, x⟩ := h
  exact ⟨x.wf.pos, x.wf.max, x.wf.sec, x.wf.ent, x.wf.lo, x.wf.hi⟩
theorem DevC.lim (h : DevC w p fp D) : ∀ k ∈ fp, k < w.heap.size := by
  obtain ⟨c, _, _, _, x⟩ := h
  exact x.lim
theorem DevC.notin (h : DevC w p fp D) : w.heap.size ∉ fp := fun hm => by have := h.lim _ hm; omega

theorem wc_write (D : Dv) (c i : Int) (bs : List UInt8) : ((D.wc c).write i bs).1 = (D.write i bs).1 ∧ ∃ c', ((D.wc c).write i bs).2 = (D.write i bs).2.wc c' := by
  unfold Dv.write
  by_cases hd : D.dead = true
  · have : (D.wc c).dead = true := hd
    rw [if_pos hd, if_pos this]; exact ⟨rfl, c, rfl⟩
  · have : ¬ (D.wc c).dead = true := hd
    rw [if_neg hd, if_neg this]
    by_cases ha : (i < 0 ∨ (D.L.length : Int) ≤ i) ∨ bs.length ≠ 128
    · rw [if_pos ha, if_pos (show (i < 0 ∨ ((D.wc c).L.length : Int) ≤ i) ∨ bs.length ≠ 128 from ha)]; exact ⟨rfl, c, rfl⟩
    · rw [if_neg ha, if_neg (show ¬ ((i < 0 ∨ ((D.wc c).L.length : Int) ≤ i) ∨ bs.length ≠ 128) from ha)]
      by_cases hf : D.fuse = 0
      · rw [if_pos hf, if_pos (show (D.wc c).fuse = 0 from hf)]; exact ⟨rfl, c, rfl⟩
      · rw [if_neg hf, if_neg (show ¬ (D.wc c).fuse = 0 from hf)]; exact ⟨rfl, _, rfl⟩
theorem wc_sync (D : Dv) (c : Int) : (D.wc c).sync.1 = D.sync.1 ∧ ∃ c', (D.wc c).sync.2 = D.sync.2.wc c' := by
  unfold Dv.sync
  by_cases hd : D.dead = true
  · have : (D.wc c).dead = true := hd
    rw [if_pos hd, if_pos this]; exact ⟨rfl, c, rfl⟩
  · have : ¬ (D.wc c).dead = true := hd
    rw [if_neg hd, if_neg this]
    by_cases hf : D.fuse = 0
    · rw [if_pos hf, if_pos (show (D.wc c).fuse = 0 from hf)]; exact ⟨rfl, c, rfl⟩
    · rw [if_neg hf, if_neg (show ¬ (D.wc c).fuse = 0 from hf)]; exact ⟨rfl, _, rfl⟩

theorem write_c (i : Int) (q c : Nat) (bs : List UInt8) (t : TypeId) (fr : Nat × Nat) (h : DevC w p fp D) (hm : D.W.length < 1000000) (hl : bs.length = 128)
    (hq : w.heap[q]? = some (.cells (secCells bs).toArray t fr)) (hqn : q ∉ fp) :
    Calls Try.prog 24 #[.pointer (some ⟨p, 0, none⟩), .int .i64 i, .slice (some ⟨q, 0, none⟩) 128 c] w fun e w' => e = .returned (.int .i64 (D.write i bs).1) ∧
      ∃ fp', DevC w' p fp' (D.write i bs).2 ∧ Off fp w w' ∧ ∀ k ∈ fp', k ∈ fp ∨ w.heap.size ≤ k := by
  obtain ⟨cc, h⟩ := h
  obtain ⟨e1, c', e2⟩ := wc_write D cc i bs
  have := write_dev p i q c bs t fr w fp (D.wc cc) h hm hq hqn
  rw [hl] at this
  refine this.mono ?_
  rintro e w' ⟨rfl, fp', h1, h2, h3⟩
  rw [e1]
  rw [e2] at h1
  exact ⟨rfl, fp', ⟨c', h1⟩, h2, h3⟩
theorem sync_c (h : DevC w p fp D) (hm : D.W.length < 1000000) :
    Calls Try.prog 50 #[.pointer (some ⟨p, 0, none⟩)] w fun e w' => e = .returned (.int .i64 D.sync.1) ∧ DevC w' p fp D.sync.2 ∧ Off fp w w' := by
  obtain ⟨cc, h⟩ := h
  obtain ⟨e1, c', e2⟩ := wc_sync D cc
  refine (sync_dev p w fp (D.wc cc) h hm).mono ?_
  rintro e w' ⟨rfl, h1, h2⟩
  rw [e1]
  rw [e2] at h1
  exact ⟨rfl, ⟨c', h1⟩, h2⟩
theorem read_c (i : Nat) (h : DevC w p fp D) (hd : D.dead = false) (hi : i < D.L.length) (hm : D.W.length < 1000000) :
    Calls Try.prog 45 #[.pointer (some ⟨p, 0, none⟩), .int .i64 (i : Int)] w fun e w' => ∃ g, e = .returned (.tuple #[.slice (some ⟨g, 0, none⟩) 128 128, .int .i64 0]) ∧ w.heap.size ≤ g ∧
      w'.heap[g]? = some (.cells (secCells (D.newest i)).toArray 5 (0, 0)) ∧ DevC w' p fp D ∧ Off fp w w' := by
  obtain ⟨cc, h⟩ := h
  refine (read_ok p i w fp (D.wc cc) h hd hi hm).mono ?_
  rintro e w' ⟨g, rfl, h1, h2, h3, h4⟩
  exact ⟨g, rfl, h1, h2, ⟨_, h3⟩, h4⟩
theorem fuse_c (k : Int) (h : DevC w p fp D) (h1 : -9223372036854775808 ≤ k) (h2 : k ≤ 9223372036854775807) :
    Calls Try.prog 22 #[.pointer (some ⟨p, 0, none⟩), .int .i64 k] w fun e w' => e = .returned (.tuple #[]) ∧ DevC w' p fp { D with fuse := k } ∧ Off fp w w' := by
  obtain ⟨cc, h⟩ := h
  refine (fuse_dev p k w fp (D.wc cc) h h1 h2).mono ?_
  rintro e w' ⟨rfl, h1, h2⟩
  exact ⟨rfl, ⟨cc, h1⟩, h2⟩
theorem pending_c (h : DevC w p fp D) :
    Calls Try.prog 33 #[.pointer (some ⟨p, 0, none⟩)] w fun e w' => e = .returned (.int .i64 (D.W.length : Int)) ∧ w' = w := by
  obtain ⟨cc, h⟩ := h
  exact pending_dev p w fp (D.wc cc) h
theorem size_c (h : DevC w p fp D) :
    Calls Try.prog 34 #[.pointer (some ⟨p, 0, none⟩)] w fun e w' => e = .returned (.int .i64 (D.L.length : Int)) ∧ w' = w := by
  obtain ⟨cc, h⟩ := h
  exact size_dev p w fp (D.wc cc) h
theorem crash_c (ko : Option Addr) (kc : Nat) (ks : List Bool) (h : DevC w p fp D) (hm : D.W.length < 1000000) (hkl : ks.length ≤ 9223372036854775807) (hks : KeepAt w fp ko ks) :
    Calls Try.prog 26 #[.pointer (some ⟨p, 0, none⟩), .slice ko ks.length kc] w fun e w' => e = .returned (.tuple #[]) ∧ DevC w' p fp (D.crashed ks) ∧ Off fp w w' := by
  obtain ⟨cc, h⟩ := h
  refine (crash_ok p ko kc ks w fp (D.wc cc) h hm hkl hks).mono ?_
  rintro e w' ⟨rfl, h1, h2⟩
  exact ⟨rfl, ⟨cc, h1⟩, h2⟩
end

/-! ### The bytes that a sector is written with -/
/-- What is kept of a sector ahead of start: n bytes of the device's sector X. -/
def aheadOf (X : List UInt8) (s n : Nat) : List UInt8 := if beval (X.take 8) = s + 1 then (X.drop 10).take n else zerosN n
theorem length_aheadOf (X : List UInt8) (s n : Nat) (hX : X.length = 128) (hn : n ≤ 118) : (aheadOf X s n).length = n := by
  unfold aheadOf
  split
  · simp; omega
  · exact length_zerosN n
def Rg.high (R : Rg) (s : Nat) : Nat := min (s * 118 + 118) R.tail
def Rg.lead (R : Rg) (s : Nat) : Nat := R.start - s * 118
def Rg.body (R : Rg) (s : Nat) (X : List UInt8) : List UInt8 := aheadOf X s (R.lead s) ++ (R.held.drop (s * 118 + R.lead s - R.start)).take (R.high s - (s * 118 + R.lead s))
def Rg.img (R : Rg) (s : Nat) (X : List UInt8) : List UInt8 := headOf s (R.high s - s * 118) ++ (R.body s X ++ zerosN (118 - (R.high s - s * 118)))
/-- Sector s may be put. -/
structure Rg.puts (R : Rg) (s : Nat) : Prop where
  lo : R.start ≤ s * 118 + 117
  hi : s * 118 < R.tail
theorem Rg.length_body {R : Rg} {s : Nat} {X : List UInt8} (h : R.puts s) (hX : X.length = 128) : (R.body s X).length = R.high s - s * 118 := by
  have h1 := h.lo
  have h2 := h.hi
  unfold Rg.tail at h2
  unfold Rg.body
  rw [List.length_append, length_aheadOf _ _ _ hX (by unfold Rg.lead; omega)]
  simp only [List.length_take, List.length_drop, Rg.lead, Rg.high, Rg.tail]
  omega
theorem Rg.length_img {R : Rg} {s : Nat} {X : List UInt8} (h : R.puts s) (hX : X.length = 128) : (R.img s X).length = 128 := by
  unfold Rg.img
  rw [List.length_append, List.length_append, length_headOf, Rg.length_body h hX, length_zerosN]
  unfold Rg.high
  omega
end Go.Proofs.Ytkkmkcobmjdblaa
