/- The device's calls, said of devices: what a law's walk leans on. -/
import Derived.Test.YtifoafiidplpiaaSync
namespace Go.Proofs.Ytifoafiidplpiaa
open Go.RowKit
set_option linter.unusedVariables false
set_option linter.unusedSimpArgs false

def Dv.fresh (n : Nat) : Dv := ⟨List.replicate n zeros, [], -1, false, 0⟩
theorem rowCells_fresh (n : Nat) : rowCells (List.replicate n zeros) = List.replicate (n * 128) (bcell 0) := by
  induction n with
  | zero => rfl
  | succ n ih =>
    rw [List.replicate_succ]
    show secCells zeros ++ rowCells (List.replicate n zeros) = _
    rw [ih, show (n + 1) * 128 = 128 + n * 128 by omega, ← List.replicate_append_replicate]
    congr 1

theorem new_dev (n : Nat) (w : World) (h1 : 1 ≤ n) (h2 : n ≤ 8192) :
    Calls Try.prog 6 #[.int .i64 (n : Int)] w fun e w' => e = .returned (.tuple #[.pointer (some ⟨w.heap.size + 1, 0, none⟩), .int .i64 0]) ∧
      DevAt w' (w.heap.size + 1) [w.heap.size, w.heap.size + 1] (Dv.fresh n) ∧ Below w.heap.size w w' := by
  refine (new_any n w (by omega) (by omega)).mono ?_
  rintro e w' ⟨rfl, rfl⟩
  refine ⟨rfl, ⟨w.heap.size, n, .slice none 0 0, ⟨⟨?_, ?_, ?_, ?_, by simp [Dv.fresh], by simp [Dv.fresh]⟩, ?_, ?_, World.ownsRow_nil _ _ _ _, by omega, by simp [Value.ownBlock], by simp [Value.ownBlock], by simp, by simp, fun k hk => by simp [Value.ownBlock] at hk, ?_⟩⟩, ?_⟩
  · simpa [Dv.fresh] using h1
  · simpa [Dv.fresh] using h2
  · intro s hs
    obtain ⟨_, rfl⟩ := List.mem_replicate.1 hs
    exact length_zeros
  · intro x hx
    simp [Dv.fresh] at hx
  · have := heap_alloc_new (w.alloc (.cells (Try.zeroRow n) 101)) (.cells #[.slice (some ⟨w.heap.size, 0, none⟩) n n, .slice none 0 0, .int .i64 (-1), .bool false, .int .i64 0] 71)
    simp only [World.size_alloc] at this
    simpa [Dv.fresh] using this
  · have hl : (Dv.fresh n).L.length = n := by simp [Dv.fresh]
    rw [hl]
    have hb : (w.alloc (.cells (Try.zeroRow n) 101)).heap[w.heap.size]? = some (.cells (Try.zeroRow n) 101) := heap_alloc_new w _
    have hz : (Try.zeroRow n).toList = rowCells (List.replicate n zeros) := by rw [rowCells_fresh]; rfl
    have hsz : (Try.zeroRow n).size = n * 128 := by rw [← Array.length_toList, hz, rowCells_fresh, List.length_replicate]
    refine ⟨?_, .inr ⟨w.heap.size, n, Try.zeroRow n, rfl, Nat.zero_le _, ?_, Nat.le_refl _, ?_, hsz, ?_⟩⟩
    · show (rowCells (List.replicate n zeros)).length = _
      rw [rowCells_fresh, List.length_replicate]
    · simp only [Int.toNat_natCast]
      rw [Below.heap_alloc _ _ _ (by simp)]; exact hb
    · simp only [maxLen]; omega
    · show _ = rowCells (List.replicate n zeros)
      rw [hz, List.take_of_length_le (by rw [rowCells_fresh, List.length_replicate]; exact Nat.le_refl _)]
  · intro k hk
    simp at hk
    simp
    omega
  · exact ((Below.refl _ _).alloc (Nat.le_refl _) _).alloc (by simp) _

theorem size_dev (p : Nat) (w : World) (fp : List Nat) (D : Dv) (h : DevAt w p fp D) :
    Calls Try.prog 27 #[.pointer (some ⟨p, 0, none⟩)] w fun e w' => e = .returned (.int .i64 (D.L.length : Int)) ∧ w' = w := by
  obtain ⟨lb, lcap, cv, h⟩ := h
  exact size_any p w _ _ _ h.c0


/-! ### Write, Sync, Read as functions on devices -/
def Dv.write (D : Dv) (i : Int) (bs : List UInt8) : Int × Dv :=
  if D.dead = true then (50, D) else if (i < 0 ∨ (D.L.length : Int) ≤ i) ∨ bs.length ≠ 128 then (1, D) else if D.fuse = 0 then (50, { D with dead := true }) else (0, D.wrote i.toNat bs)
def Dv.sync (D : Dv) : Int × Dv :=
  if D.dead = true then (50, D) else if D.fuse = 0 then (50, { D with dead := true }) else (0, D.synced)
def Dv.read (D : Dv) (i : Int) : Option (List UInt8) × Int × Dv :=
  if D.dead = true then (none, 50, D) else if i < 0 ∨ (D.L.length : Int) ≤ i then (none, 1, D) else (some (D.newest i.toNat), 0, { D with calls := wrap64 (D.calls + 1) })

theorem write_dev (p : Nat) (i : Int) (q o c : Nat) (bs : List UInt8) (w : World) (fp : List Nat) (D : Dv) (h : DevAt w p fp D) (hm : D.W.length < 1000000)
    (hq : SrcAt w q o bs) (hqn : q ∉ fp) :
    Calls Try.prog 67 #[.pointer (some ⟨p, 0, none⟩), .int .i64 i, .slice (some ⟨q, o, none⟩) bs.length c] w fun e w' => e = .returned (.int .i64 (D.write i bs).1) ∧
      ∃ fp', DevAt w' p fp' (D.write i bs).2 ∧ Off fp w w' ∧ ∀ k ∈ fp', k ∈ fp ∨ w.heap.size ≤ k := by
  unfold Dv.write
  by_cases hd : D.dead = true
  · simp only [hd, if_true]
    refine (write_dead p i _ _ c w fp D h hd).mono ?_
    rintro e w' ⟨rfl, rfl⟩
    exact ⟨rfl, fp, h, Off.refl _ _, fun k hk => .inl hk⟩
  · have hd' : D.dead = false := by simpa using hd
    rw [if_neg hd]
    by_cases ha : (i < 0 ∨ (D.L.length : Int) ≤ i) ∨ bs.length ≠ 128
    · rw [if_pos ha]
      refine (write_arg p i _ _ c w fp D h hd' ha).mono ?_
      rintro e w' ⟨rfl, rfl⟩
      exact ⟨rfl, fp, h, Off.refl _ _, fun k hk => .inl hk⟩
    · rw [if_neg ha]
      have hb : bs.length = 128 := by omega
      obtain ⟨n, rfl⟩ : ∃ n : Nat, i = n := ⟨i.toNat, by omega⟩
      have hn : n < D.L.length := by omega
      rw [hb]
      by_cases hf : D.fuse = 0
      · rw [if_pos hf]
        refine (write_burnt p n _ c w fp D h hd' hn hf).mono ?_
        rintro e w' ⟨rfl, h1, h2⟩
        exact ⟨rfl, fp, h1, h2, fun k hk => .inl hk⟩
      · rw [if_neg hf]
        refine (write_ok p n q o c bs w fp D h hd' hn hf hm hb hq hqn).mono ?_
        rintro e w' ⟨rfl, fp', h1, h2, h3⟩
        exact ⟨rfl, fp', h1, h2, h3⟩

theorem write_sec (p : Nat) (i : Int) (q c : Nat) (a b : Int) (t : TypeId) (fr : Nat × Nat) (w : World) (fp : List Nat) (D : Dv) (h : DevAt w p fp D) (hm : D.W.length < 1000000)
    (hq : w.heap[q]? = some (.cells (secCells (sec a b)).toArray t fr)) (hqn : q ∉ fp) :
    Calls Try.prog 67 #[.pointer (some ⟨p, 0, none⟩), .int .i64 i, .slice (some ⟨q, 0, none⟩) 128 c] w fun e w' => e = .returned (.int .i64 (D.write i (sec a b)).1) ∧
      ∃ fp', DevAt w' p fp' (D.write i (sec a b)).2 ∧ Off fp w w' ∧ ∀ k ∈ fp', k ∈ fp ∨ w.heap.size ≤ k := by
  have h1 := write_dev p i q 0 c (sec a b) w fp D h hm (SrcAt.block hq) hqn
  rw [length_sec] at h1
  exact h1

theorem sync_dev (p : Nat) (w : World) (fp : List Nat) (D : Dv) (h : DevAt w p fp D) (hm : D.W.length < 1000000) :
    Calls Try.prog 68 #[.pointer (some ⟨p, 0, none⟩)] w fun e w' => e = .returned (.int .i64 D.sync.1) ∧ DevAt w' p fp D.sync.2 ∧ Off fp w w' := by
  unfold Dv.sync
  by_cases hd : D.dead = true
  · simp only [hd, if_true]
    refine (sync_dead p w fp D h hd).mono ?_
    rintro e w' ⟨rfl, rfl⟩
    exact ⟨rfl, h, Off.refl _ _⟩
  · have hd' : D.dead = false := by simpa using hd
    rw [if_neg hd]
    by_cases hf : D.fuse = 0
    · rw [if_pos hf]
      exact sync_burnt p w fp D h hd' hf
    · rw [if_neg hf]
      exact sync_ok p w fp D h hd' hf hm

/-- What Read hands back: nothing, or a new block with the bytes. -/
def Told (w w' : World) (o : Option (List UInt8)) (v : Value) : Prop :=
  match o with
  | none => v = .slice none 0 0
  | some bs => ∃ g, v = .slice (some ⟨g, 0, none⟩) 128 128 ∧ w.heap.size ≤ g ∧ bs.length = 128 ∧ w'.heap[g]? = some (.cells (secCells bs).toArray 5 (0, 0))

theorem read_dev (p : Nat) (i : Int) (w : World) (fp : List Nat) (D : Dv) (h : DevAt w p fp D) (hm : D.W.length < 1000000) :
    Calls Try.prog 45 #[.pointer (some ⟨p, 0, none⟩), .int .i64 i] w fun e w' => ∃ v, e = .returned (.tuple #[v, .int .i64 (D.read i).2.1]) ∧ Told w w' (D.read i).1 v ∧ DevAt w' p fp (D.read i).2.2 ∧ Off fp w w' := by
  unfold Dv.read
  by_cases hd : D.dead = true
  · simp only [hd, if_true]
    refine (read_dead p i w fp D h hd).mono ?_
    rintro e w' ⟨rfl, rfl⟩
    exact ⟨_, rfl, rfl, h, Off.refl _ _⟩
  · have hd' : D.dead = false := by simpa using hd
    rw [if_neg hd]
    by_cases ha : i < 0 ∨ (D.L.length : Int) ≤ i
    · rw [if_pos ha]
      refine (read_arg p i w fp D h hd' ha).mono ?_
      rintro e w' ⟨rfl, rfl⟩
      exact ⟨_, rfl, rfl, h, Off.refl _ _⟩
    · rw [if_neg ha]
      obtain ⟨n, rfl⟩ : ∃ n : Nat, i = n := ⟨i.toNat, by omega⟩
      have hn : n < D.L.length := by omega
      obtain ⟨_, _, _, hx⟩ := id h
      refine (read_ok p n w fp D h hd' hn hm).mono ?_
      rintro e w' ⟨g, rfl, h1, h2, h3, h4⟩
      exact ⟨_, rfl, ⟨g, rfl, h1, length_newest D hx.wf n hn, h2⟩, h3, h4⟩
end Go.Proofs.Ytifoafiidplpiaa
