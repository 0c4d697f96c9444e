/- Both pools together. -/
import Derived.Test.YtifoafiidplpiaaQPlain
import Derived.Test.YtifoafiidplpiaaKAt
namespace Go.Proofs.Ytifoafiidplpiaa
open Go.RowKit
set_option linter.unusedVariables false
set_option linter.unusedSimpArgs false

section
variable {Φ : Force} {w0 w w' : World} {P G q p n : Nat} {xs bl ff : List Nat} {vs : List Value} {S : Pl Φ.σ} {D D' : Dv}
/-- Blocks that are apart are written; others may be new. -/
theorem PoolAt.writeL (h : PoolAt Φ w0 w P G q p n xs S) {Z ys : List Nat} (hZ : ∀ k ∈ Z, k ∈ xs ∧ w0.heap.size ≤ k) (hO : Off Z w w') (hy : ∀ k ∈ ys, k ∈ xs ∨ (w.heap.size ≤ k ∧ k < w'.heap.size)) : PoolAt Φ w0 w' P G q p n ys S := by
  obtain ⟨bl, ff, vs, D, h⟩ := h
  have lt : ∀ k ∈ P :: G :: (bl ++ (ff ++ xs)), k < w.heap.size := fun k hk => h.fs.lts hk
  have nP : P ∉ Z := fun hm => h.pb (by simp [(hZ P hm).1])
  have nG : G ∉ Z := fun hm => h.gb (by simp [(hZ G hm).1])
  have nB : ∀ k ∈ bl, k ∉ Z := fun k hk hm => h.bx k hk (by simp [(hZ k hm).1])
  have nF : ∀ k ∈ ff, k ∉ Z := fun k hk hm => h.fx k hk (hZ k hm).1
  have hk : ∀ k, k ∉ Z → k ∈ P :: G :: (bl ++ (ff ++ xs)) → w'.heap[k]? = w.heap[k]? := fun k hn hm => hO.block k (lt k hm) hn
  refine PoolIs.at (bl := bl) (ff := ff) (vs := vs) (D := D) { h with
    fs := h.fs.writeL (fun k hk => ⟨by simp [(hZ k hk).1], (hZ k hk).2⟩) hO (fun k hm => by
      simp only [List.mem_cons, List.mem_append] at hm ⊢
      rcases hm with h3 | h3 | h3 | h3 | h3
      · exact .inl (.inl h3)
      · exact .inl (.inr (.inl h3))
      · exact .inl (.inr (.inr (.inl h3)))
      · exact .inl (.inr (.inr (.inr (.inl h3))))
      · rcases hy k h3 with h4 | h4
        · exact .inl (.inr (.inr (.inr (.inr h4))))
        · exact .inr h4)
    head := (hk P nP (by simp)).trans h.head
    row := (hk G nG (by simp)).trans h.row
    byt := fun i f v h1 h2 => (h.byt i f v h1 h2).stay rfl hO.size (fun k hm => ⟨hm, hk k (nB k hm) (by simp [hm])⟩)
    fo := Φ.stay _ _ _ _ h.fo hO.size (fun k hm => hk k (nF k hm) (by simp [hm]))
    pb := fun hm => by
      simp only [List.mem_append] at hm
      rcases hm with h3 | h3 | h3
      · exact h.pb (by simp [h3])
      · exact h.pb (by simp [h3])
      · rcases hy P h3 with h4 | h4
        · exact h.pb (by simp [h4])
        · have := lt P (by simp); omega
    gb := fun hm => by
      simp only [List.mem_append] at hm
      rcases hm with h3 | h3 | h3
      · exact h.gb (by simp [h3])
      · exact h.gb (by simp [h3])
      · rcases hy G h3 with h4 | h4
        · exact h.gb (by simp [h4])
        · have := lt G (by simp); omega
    bx := fun k hk hm => by
      simp only [List.mem_append] at hm
      rcases hm with h3 | h3
      · exact h.bx k hk (by simp [h3])
      · rcases hy k h3 with h4 | h4
        · exact h.bx k hk (by simp [h4])
        · have := lt k (by simp [hk]); omega
    fx := fun k hk hm => by
      rcases hy k hm with h4 | h4
      · exact h.fx k hk h4
      · have := lt k (by simp [hk]); omega }
set_option maxHeartbeats 1000000 in
set_option maxRecDepth 100000 in
theorem get_bad (h : PoolAt Φ w0 w P G q p n xs S) (m : Int) (hok : Φ.ok S.fo) (hpg : S.sound n) (hwr : S.wr ≤ 1000000) (hz : (S.get n m).2.1 ≠ 0) :
    Calls Try.prog 19 #[.pointer (some ⟨P, 0, none⟩), .int .i64 m] w fun e w' => e = .returned (.tuple #[.slice none 0 0, .int .i64 (S.get n m).2.1]) ∧ PoolAt Φ w0 w' P G q p n xs (S.get n m).2.2 ∧ Kept xs w w' := by
  obtain ⟨bl, ff, vs, D, h⟩ := h
  have HFI := hide (find_any h m)
  cases hf : S.find m with
  | some i => rw [get_some hf] at hz; exact absurd rfl hz
  | none =>
    have c0 := h.c0
    rw [hf] at HFI
    have HFI : Hid (Calls Try.prog 29 #[.pointer (some ⟨P, 0, none⟩), .int .i64 m] w fun e w' => e = .returned (.pointer none) ∧ w' = w) := HFI
    by_cases hin : m < 0 ∨ (n : Int) ≤ m
    · have HGE : Hid (S.get n m = ([], 1, S)) := get_arg hin hf
      have HRD := hide (b_readArg m h.fs hin)
      have H := hide h
      clear h hpg hf hok hz hin
      go_enter Try.func19, Try.ntmps19
      go_wp2_with (first
        | (go_at_call 29; refine HFI.out.mono ?_; rintro e w' ⟨rfl, hw⟩; have hw := hw.symm; subst hw)
        | (go_at_call 11; refine HRD.out.mono ?_; rintro e w' ⟨rfl, hw⟩; have hw := hw.symm; subst hw))
      go_ret2
      rw [HGE.out]
      exact ⟨rfl, H.out.at, Kept.refl _ _⟩
    · obtain ⟨⟨x, i, T⟩, hT⟩ : ∃ T, S.free = T := ⟨_, rfl⟩
      have hx : x ≠ 0 := fun e => hz (by subst e; rw [get_none hin hf hT])
      have HGE : Hid (S.get n m = ([], x, T)) := get_err hin hf hT hx
      obtain ⟨k, rfl⟩ : ∃ k : Nat, m = (k : Int) := ⟨m.toNat, by omega⟩
      have HRD := hide (pool_fread h k (by omega))
      have HFREE := hide (fun (W : World) (bl ff : List Nat) (vs : List Value) (D : Dv) (g : Nat) (hW : PoolIs Φ w0 W P G q p n (g :: xs) bl ff vs S D) => free_any hW hok hpg hwr)
      rw [hT] at HFREE
      have hxb : (x != 0) = true := by simpa using hx
      have HFREE : Hid (∀ (W : World) (bl ff : List Nat) (vs : List Value) (D : Dv) (g : Nat), PoolIs Φ w0 W P G q p n (g :: xs) bl ff vs S D → Calls Try.prog 35 #[.pointer (some ⟨P, 0, none⟩)] W fun e w' => e = .returned (.tuple #[.pointer none, .int .i64 x]) ∧ PoolAt Φ w0 w' P G q p n (g :: xs) T ∧ Kept (g :: xs) W w') := by
        have := HFREE
        simp only [if_neg hx] at this
        exact this
      clear h hpg hf hok hT hin hz
      go_enter Try.func19, Try.ntmps19
      go_wp2_with (first
        | (go_at_call 29; refine HFI.out.mono ?_; rintro e w' ⟨rfl, hw⟩; have hw := hw.symm; subst hw)
        | (go_at_call 11; refine HRD.out.mono ?_; rintro e w2 ⟨g, rfl, hg, hblk, ⟨D2, h2⟩, hK2⟩; have HFR := hide (HFREE.out w2 bl ff vs D2 g h2); have H2 := hide hK2; clear hg hblk hK2 h2 HFREE)
        | (go_at_call 35; refine HFR.out.mono ?_; rintro e w3 ⟨rfl, h3, hK3⟩; have H3 := hide (And.intro h3 hK3); clear h3 hK3))
      go_ret2
      rw [HGE.out]
      exact ⟨rfl, H3.out.1.mind (fun k hk => by simp [hk]), H2.out.trans (H3.out.2.mono (fun k hk => by simp [hk]))⟩
end

/-- The program's pool with S, the document's with R; blocks xs of the law's own. -/
def TwoP (gf gb : Nat) (bad : Int) (w0 w : World) (P G q p r gD gF : Nat) (xs : List Nat) (S R : Pl (List Int)) : Prop :=
  ∃ fp, PoolAt (Force.plays gf gb bad) w0 w P G q p 6 (xs ++ fp) S ∧ RefAt w r gD gF fp R bad ∧ (∀ k ∈ fp, w0.heap.size ≤ k) ∧ ∀ k ∈ xs, k ∉ fp
section
variable {gf gb : Nat} {bad : Int} {w0 w w' : World} {P G q p r gD gF : Nat} {xs : List Nat} {S R : Pl (List Int)}
theorem TwoP.below (h : TwoP gf gb bad w0 w P G q p r gD gF xs S R) : Below w0.heap.size w0 w := let ⟨_, a, _⟩ := h; a.below
theorem TwoP.hand (h : TwoP gf gb bad w0 w P G q p r gD gF xs S R) : S.hand < S.fs.length := let ⟨_, a, _⟩ := h; a.handy
theorem TwoP.f2 (h : TwoP gf gb bad w0 w P G q p r gD gF xs S R) : S.fs.length ≤ 64 := let ⟨_, ⟨_, _, _, _, a⟩, _⟩ := h; a.f2
theorem TwoP.mindNew (h : TwoP gf gb bad w0 w P G q p r gD gF xs S R) (hb : Below w.heap.size w w') {ys : List Nat} (hy : ∀ k ∈ ys, k ∈ xs ∨ (w.heap.size ≤ k ∧ k < w'.heap.size)) : TwoP gf gb bad w0 w' P G q p r gD gF ys S R := by
  obtain ⟨fp, a, b, c, d⟩ := h
  refine ⟨fp, a.mindNew hb (fun k hk => ?_), b.belowW hb, c, fun k hk hm => ?_⟩
  · rcases List.mem_append.1 hk with h1 | h1
    · rcases hy k h1 with h2 | h2
      · exact .inl (by simp [h2])
      · exact .inr h2
    · exact .inl (by simp [h1])
  · rcases hy k hk with h2 | h2
    · exact d k h2 hm
    · have := b.lts k hm; omega
theorem TwoP.belowW (h : TwoP gf gb bad w0 w P G q p r gD gF xs S R) (hb : Below w.heap.size w w') : TwoP gf gb bad w0 w' P G q p r gD gF xs S R := h.mindNew hb (fun k hk => .inl hk)
theorem TwoP.mind (h : TwoP gf gb bad w0 w P G q p r gD gF xs S R) {ys : List Nat} (hy : ∀ k ∈ ys, k ∈ xs) : TwoP gf gb bad w0 w P G q p r gD gF ys S R := h.mindNew (Below.refl _ _) (fun k hk => .inl (hy k hk))
theorem TwoP.lts (h : TwoP gf gb bad w0 w P G q p r gD gF xs S R) {k : Nat} (hk : k ∈ xs) : k < w.heap.size := let ⟨_, a, _⟩ := h; a.lts (by simp [hk])
/-- The law writes one of its own blocks. -/
theorem TwoP.write (h : TwoP gf gb bad w0 w P G q p r gD gF xs S R) {g : Nat} (hg : g ∈ xs) (hg0 : w0.heap.size ≤ g) (hO : Off [g] w w') : TwoP gf gb bad w0 w' P G q p r gD gF xs S R := by
  obtain ⟨fp, a, b, c, d⟩ := h
  exact ⟨fp, a.write (by simp [hg]) hg0 hO, b.stay (fun k hk => hO.block k (b.lts k hk) (fun hm => by simp at hm; subst hm; exact d k hg hk)), c, d⟩
theorem TwoP.pool {T : Pl (List Int)} (fp : List Nat) (b : RefAt w r gD gF fp R bad) (c : ∀ k ∈ fp, w0.heap.size ≤ k) (d : ∀ k ∈ xs, k ∉ fp) (h1 : PoolAt (Force.plays gf gb bad) w0 w' P G q p 6 (xs ++ fp) T) (h2 : Kept (xs ++ fp) w w') : TwoP gf gb bad w0 w' P G q p r gD gF xs T R ∧ Kept xs w w' :=
  ⟨⟨fp, h1, b.stay (fun k hk => h2.2 k (by simp [hk])), c, d⟩, h2.mono (fun k hk => by simp [hk])⟩
theorem TwoP.ref {T : Pl (List Int)} (fp : List Nat) (a : PoolAt (Force.plays gf gb bad) w0 w P G q p 6 (xs ++ fp) S) (b : RefAt w r gD gF fp R bad) (c : ∀ k ∈ fp, w0.heap.size ≤ k) (d : ∀ k ∈ xs, k ∉ fp) (h : RefTo w w' r gD gF fp T bad) : TwoP gf gb bad w0 w' P G q p r gD gF xs S T ∧ Kept xs w w' := by
  obtain ⟨fp', h1, h2, h3⟩ := h
  have hs := a.below.size
  have lx : ∀ k ∈ xs, k < w.heap.size := fun k hk => a.lts (by simp [hk])
  refine ⟨⟨fp', a.writeL (Z := fp) (fun k hk => ⟨by simp [hk], c k hk⟩) h2 (fun k hk => ?_), h1, fun k hk => ?_, fun k hk hm => ?_⟩, h2.size, fun k hk => h2.block k (lx k hk) (d k hk)⟩
  · rcases List.mem_append.1 hk with h4 | h4
    · exact .inl (by simp [h4])
    · rcases h3 k h4 with h5 | h5
      · exact .inl (by simp [h5])
      · exact .inr ⟨h5, h1.lts k h4⟩
  · rcases h3 k hk with h5 | h5
    · exact c k h5
    · omega
  · rcases h3 k hm with h5 | h5
    · exact d k hk h5
    · have := lx k hk; omega
/-! ### The program's calls -/
theorem t_put (h : TwoP gf gb bad w0 w P G q p r gD gF xs S R) (hI : PInv S) (m : Int) (g c : Nat) (bs : List UInt8) (hl : bs.length = 512) (hg : g ∈ xs) (hs : SrcAt w g 0 bs) (lsn : Int) (h1 : -9223372036854775808 ≤ lsn) (h2 : lsn ≤ 9223372036854775807) (hfo : S.fo.length ≤ 100000) (hwr : S.wr ≤ 1000000) :
    Calls Try.prog 13 #[.pointer (some ⟨P, 0, none⟩), .int .i64 m, .slice (some ⟨g, 0, none⟩) 512 c, .int .i64 lsn] w fun e w' => e = .returned (.int .i64 (S.rput bad m bs lsn).1) ∧ TwoP gf gb bad w0 w' P G q p r gD gF xs (S.rput bad m bs lsn).2 R ∧ Kept xs w w' := by
  obtain ⟨fp, a, b, c', d⟩ := h
  have hcon := put_any (c := c) a m g bs hl (by simp [hg]) hs lsn h1 h2 hfo hI.sound hwr
  rw [put_eq m bs lsn] at hcon
  refine hcon.mono ?_
  rintro e w' ⟨rfl, r1, r2⟩
  exact ⟨rfl, TwoP.pool fp b c' d r1 r2⟩
theorem t_evict (h : TwoP gf gb bad w0 w P G q p r gD gF xs S R) (hI : PInv S) (m : Int) (hfo : S.fo.length ≤ 100000) (hwr : S.wr ≤ 1000000) :
    Calls Try.prog 10 #[.pointer (some ⟨P, 0, none⟩), .int .i64 m] w fun e w' => e = .returned (.int .i64 (S.revict bad m).1) ∧ TwoP gf gb bad w0 w' P G q p r gD gF xs (S.revict bad m).2 R ∧ Kept xs w w' := by
  obtain ⟨fp, a, b, c', d⟩ := h
  have hcon := evict_any a m hfo hI.sound hwr
  rw [evict_eq hI m] at hcon
  refine hcon.mono ?_
  rintro e w' ⟨rfl, r1, r2⟩
  exact ⟨rfl, TwoP.pool fp b c' d r1 r2⟩
theorem t_get (h : TwoP gf gb bad w0 w P G q p r gD gF xs S R) (hI : PInv S) (m : Int) (hfo : S.fo.length ≤ 100000) (hwr : S.wr ≤ 1000000) (hz : (S.rget bad m).2.1 = 0) :
    Calls Try.prog 19 #[.pointer (some ⟨P, 0, none⟩), .int .i64 m] w fun e w' => ∃ g c cur, e = .returned (.tuple #[.slice (some ⟨g, 0, none⟩) 512 c, .int .i64 0]) ∧ w.heap.size ≤ g ∧ BlkAt w' g c (S.rget bad m).1 cur ∧ TwoP gf gb bad w0 w' P G q p r gD gF (g :: xs) (S.rget bad m).2.2 R ∧ Kept xs w w' := by
  obtain ⟨fp, a, b, c', d⟩ := h
  have he := get_eq (gf := gf) (gb := gb) (bad := bad) hI a.handy m
  have hcon := get_ok a m hfo hI.sound hI.full hwr (by rw [he]; exact hz)
  rw [he] at hcon
  refine hcon.mono ?_
  rintro e w' ⟨g, c, cur, rfl, r0, r1, r2, r3⟩
  refine ⟨g, c, cur, rfl, r0, r1, ⟨fp, r2, b.stay (fun k hk => r3.2 k (by simp [hk])), c', fun k hk hm => ?_⟩, r3.mono (fun k hk => by simp [hk])⟩
  rcases List.mem_cons.1 hk with h1 | h1
  · subst h1; have := b.lts k hm; omega
  · exact d k h1 hm
theorem t_getBad (h : TwoP gf gb bad w0 w P G q p r gD gF xs S R) (hI : PInv S) (m : Int) (hfo : S.fo.length ≤ 100000) (hwr : S.wr ≤ 1000000) (hz : (S.rget bad m).2.1 ≠ 0) :
    Calls Try.prog 19 #[.pointer (some ⟨P, 0, none⟩), .int .i64 m] w fun e w' => e = .returned (.tuple #[.slice none 0 0, .int .i64 (S.rget bad m).2.1]) ∧ TwoP gf gb bad w0 w' P G q p r gD gF xs (S.rget bad m).2.2 R ∧ Kept xs w w' := by
  obtain ⟨fp, a, b, c', d⟩ := h
  have he := get_eq (gf := gf) (gb := gb) (bad := bad) hI a.handy m
  have hcon := get_bad a m hfo hI.sound hwr (by rw [he]; exact hz)
  rw [he] at hcon
  refine hcon.mono ?_
  rintro e w' ⟨rfl, r1, r2⟩
  exact ⟨rfl, TwoP.pool fp b c' d r1 r2⟩
theorem t_has (h : TwoP gf gb bad w0 w P G q p r gD gF xs S R) (m : Int) : Calls Try.prog 25 #[.pointer (some ⟨P, 0, none⟩), .int .i64 m] w fun e w' => e = .returned (.bool (S.find m).isSome) ∧ w' = w := let ⟨_, a, _⟩ := h; pool_has a m
theorem t_writes (h : TwoP gf gb bad w0 w P G q p r gD gF xs S R) : Calls Try.prog 15 #[.pointer (some ⟨P, 0, none⟩)] w fun e w' => e = .returned (.int .i64 (S.wr : Int)) ∧ w' = w := let ⟨_, a, _⟩ := h; pool_writes a
theorem t_dirty (h : TwoP gf gb bad w0 w P G q p r gD gF xs S R) (hI : PInv S) : Calls Try.prog 14 #[.pointer (some ⟨P, 0, none⟩)] w fun e w' => ∃ v, e = .returned v ∧ DirtAt w' v (dirtE S 6) ∧ Below w.heap.size w w' := by
  obtain ⟨fp, a, b, c', d⟩ := h
  refine (pool_dirty a hI.few).mono ?_
  rintro e w' ⟨v, d, rfl, h1, h2, h3, h4⟩
  rw [hI.dirt d h2 h3] at h1
  exact ⟨v, rfl, h1, h4⟩
/-! ### The document's calls -/
theorem t_rput (h : TwoP gf gb bad w0 w P G q p r gD gF xs S R) (hI : PInv R) (m : Int) (bs : List UInt8) (hl : bs.length = 512) (lsn : Int) (hfo : R.fo.length ≤ 100000) (hwr : R.wr ≤ 1000000) :
    Calls Try.prog 21 #[.pointer (some ⟨r, 0, none⟩), .int .i64 m, .string (strOf bs), .int .i64 lsn] w fun e w' => e = .returned (.int .i64 (R.rput bad m bs lsn).1) ∧ TwoP gf gb bad w0 w' P G q p r gD gF xs S (R.rput bad m bs lsn).2 ∧ Kept xs w w' := by
  obtain ⟨fp, a, ⟨cD, cF, dx, fx, fov, hfp, b⟩, c', d⟩ := h
  subst hfp
  refine (rput_any b m bs hl lsn hfo hwr hI.1.ok).mono ?_
  rintro e w' ⟨rfl, r1⟩
  exact ⟨rfl, TwoP.ref _ a b.at c' d r1⟩
theorem t_rget (h : TwoP gf gb bad w0 w P G q p r gD gF xs S R) (hI : PInv R) (m : Int) (hfo : R.fo.length ≤ 100000) (hwr : R.wr ≤ 1000000) :
    Calls Try.prog 20 #[.pointer (some ⟨r, 0, none⟩), .int .i64 m] w fun e w' => e = .returned (.tuple #[.string (strOf (R.rget bad m).1), .int .i64 (R.rget bad m).2.1]) ∧ TwoP gf gb bad w0 w' P G q p r gD gF xs S (R.rget bad m).2.2 ∧ Kept xs w w' := by
  obtain ⟨fp, a, ⟨cD, cF, dx, fx, fov, hfp, b⟩, c', d⟩ := h
  subst hfp
  refine (rget_any b m hfo hwr hI.1.ok).mono ?_
  rintro e w' ⟨rfl, r1⟩
  exact ⟨rfl, TwoP.ref _ a b.at c' d r1⟩
theorem t_revict (h : TwoP gf gb bad w0 w P G q p r gD gF xs S R) (hI : PInv R) (m : Int) (hfo : R.fo.length ≤ 100000) (hwr : R.wr ≤ 1000000) :
    Calls Try.prog 22 #[.pointer (some ⟨r, 0, none⟩), .int .i64 m] w fun e w' => e = .returned (.int .i64 (R.revict bad m).1) ∧ TwoP gf gb bad w0 w' P G q p r gD gF xs S (R.revict bad m).2 ∧ Kept xs w w' := by
  obtain ⟨fp, a, ⟨cD, cF, dx, fx, fov, hfp, b⟩, c', d⟩ := h
  subst hfp
  refine (revict_any b m hfo hwr hI.1.ok).mono ?_
  rintro e w' ⟨rfl, r1⟩
  exact ⟨rfl, TwoP.ref _ a b.at c' d r1⟩
theorem t_rdirty (h : TwoP gf gb bad w0 w P G q p r gD gF xs S R) : Calls Try.prog 24 #[.pointer (some ⟨r, 0, none⟩)] w fun e w' => ∃ v, e = .returned v ∧ DirtAt w' v (dirtE R 6) ∧ Below w.heap.size w w' := by
  obtain ⟨fp, a, ⟨cD, cF, dx, fx, fov, hfp, b⟩, c', d⟩ := h
  exact rdirty_any b
/-! ### Cells -/
theorem TwoP.cells (h : TwoP gf gb bad w0 w P G q p r gD gF xs S R) : ∃ (cG : Nat) (ao : Option Addr) (c : Nat) (bo : Option Addr) (d : Nat), w.cell? ⟨r, 1, none⟩ = some (.slice (some ⟨gF, 0, none⟩) R.fs.length cG) ∧ w.cell? ⟨r, 6, none⟩ = some (.int .i64 (R.wr : Int)) ∧ w.cell? ⟨r, 5, none⟩ = some (.slice ao R.fo.length c) ∧ w.cell? ⟨gf, 0, none⟩ = some (.slice bo S.fo.length d) ∧
    (∀ (i : Nat) (f : Fm), R.fs[i]? = some f → w.cell? ⟨gF, i * 6, none⟩ = some (.int .i64 (pageNo f))) ∧
    (∀ (i : Nat) (l : Int), R.fo[i]? = some l → ∃ g, ao = some ⟨g, 0, none⟩ ∧ w.cell? ⟨g, i, none⟩ = some (.int .i64 l)) ∧
    (∀ (i : Nat) (l : Int), S.fo[i]? = some l → ∃ g, bo = some ⟨g, 0, none⟩ ∧ w.cell? ⟨g, i, none⟩ = some (.int .i64 l)) := by
  obtain ⟨fp, ⟨bl, ff, vs, D, a⟩, ⟨cD, cF, dx, fx, fov, hfp, b⟩, c', d⟩ := h
  obtain ⟨v, _, v1, v2, v3, _⟩ := (show PlaysHeld gf gb bad w ff S.fo from a.fo)
  have own : ∀ (u : Value) (l : List Int), w.ownsRow 0 3 1 u l.length (intCells l) → ∃ ao c, u = .slice ao l.length c ∧ ∀ (i : Nat) (x : Int), l[i]? = some x → ∃ g, ao = some ⟨g, 0, none⟩ ∧ w.cell? ⟨g, i, none⟩ = some (.int .i64 x) := fun u l hu => by
    rcases hu.2 with ⟨rfl, h0⟩ | ⟨g, cap, cur, rfl, _, hg, _, _, hc, ht⟩
    · have hl : l = [] := List.eq_nil_of_length_eq_zero h0
      subst hl
      exact ⟨none, 0, rfl, fun i x hx => by simp at hx⟩
    · refine ⟨_, cap, rfl, fun i x hx => ⟨g, rfl, ?_⟩⟩
      have hlt := (List.getElem?_eq_some_iff.1 hx).1
      rw [cell_of_row w g i _ _ _ hg]
      have : (cur.toList.take (l.length * 1))[i]? = some (.int .i64 x) := by rw [ht]; simp [intCells, hx]
      rw [List.getElem?_take_of_lt (by omega)] at this
      simpa using this
  obtain ⟨ao, c, rfl, hf⟩ := own fov R.fo b.fown
  obtain ⟨bo, e, rfl, hg⟩ := own v S.fo v3
  refine ⟨cF, ao, c, bo, e, b.c1, b.c6', b.c5, ?_, fun i f hi => (b.cells i f hi).2.1, hf, hg⟩
  rw [cell_of_row w gf 0 _ _ _ v1]
  rfl
end
end Go.Proofs.Ytifoafiidplpiaa
