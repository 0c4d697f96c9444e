/- PoolKeeps's pool, call by call. -/
import Derived.Test.YtifoafiidplpiaaKTop
namespace Go.Proofs.Ytifoafiidplpiaa
open Go.RowKit
set_option linter.unusedVariables false
set_option linter.unusedSimpArgs false

/-- N: how often it may have written; t: up to where force was asked. -/
def PoolK (w0 w : World) (P G q p gB gI : Nat) (I : List Int) (K : Int) (N : Nat) (t : Int) : Prop := ∃ S : Pl Int, PoolAt (Force.top gB) w0 w P G q p 10 [gI] S ∧ KInv S I K ∧ S.wr ≤ N ∧ S.fo = t
section
variable {w0 w w' : World} {P G q p gB gI : Nat} {I : List Int} {K t : Int} {N : Nat}
theorem PoolAt.handy {Φ : Force} {n : Nat} {xs : List Nat} {S : Pl Φ.σ} (h : PoolAt Φ w0 w P G q p n xs S) : S.hand < S.fs.length := let ⟨_, _, _, _, x⟩ := h; x.hand
theorem PoolK.belowW (h : PoolK w0 w P G q p gB gI I K N t) (hb : Below w.heap.size w w') : PoolK w0 w' P G q p gB gI I K N t := let ⟨S, a, b⟩ := h; ⟨S, a.belowW hb, b⟩
theorem PoolK.below (h : PoolK w0 w P G q p gB gI I K N t) : Below w0.heap.size w0 w := let ⟨_, a, _⟩ := h; a.below
theorem PoolK.write (h : PoolK w0 w P G q p gB gI I K N t) (hg0 : w0.heap.size ≤ gI) (hO : Off [gI] w w') : PoolK w0 w' P G q p gB gI I K N t := let ⟨S, a, b⟩ := h; ⟨S, a.write (by simp) hg0 hO, b⟩
theorem PoolK.li (h : PoolK w0 w P G q p gB gI I K N t) : I.length = 10 := let ⟨_, _, b, _⟩ := h; b.li
theorem PoolK.ib (h : PoolK w0 w P G q p gB gI I K N t) (m : Nat) : 0 ≤ I.getD m 0 ∧ I.getD m 0 ≤ K := let ⟨_, _, b, _⟩ := h; b.ib m
theorem PoolK.tb (h : PoolK w0 w P G q p gB gI I K N t) : 0 ≤ t ∧ t ≤ K := let ⟨_, _, b, _, e⟩ := h; by rw [← e]; exact b.k0
theorem PoolK.lift (h : PoolK w0 w P G q p gB gI I K N t) {K' : Int} {N' : Nat} (hK : K ≤ K') (hN : N ≤ N') : PoolK w0 w P G q p gB gI I K' N' t := let ⟨S, a, b, c, d⟩ := h; ⟨S, a, b.lift hK, by omega, d⟩
theorem PoolK.cell (h : PoolK w0 w P G q p gB gI I K N t) : w.cell? ⟨gB, 0, none⟩ = some (.int .i64 t) := by
  obtain ⟨S, ⟨bl, ff, vs, D, a⟩, b, c, d⟩ := h
  have hb : w.heap[gB]? = some (.cells #[.int .i64 S.fo] 3 (0, 0)) := a.fo.2
  rw [cell_of_row w gB 0 _ _ _ hb, ← d]
  rfl
theorem pk_put {W : World} (h : PoolK w0 w P G q p gB gI I K N t) (m : Nat) (hm : m < 10) (L : Int) (hL : 0 < L) (hL2 : L ≤ 1000) (hKL : K ≤ L) (hN : N ≤ 1000) (hb : Below w.heap.size w W) (hg : W.heap[w.heap.size]? = some (.cells (secCells (pg 7 L)).toArray 5 (0, 0))) :
    Calls Try.prog 13 #[.pointer (some ⟨P, 0, none⟩), .int .i64 (m : Int), .slice (some ⟨w.heap.size, 0, none⟩) 512 512, .int .i64 L] W fun e w' => e = .returned (.int .i64 0) ∧ (∃ t', PoolK w0 w' P G q p gB gI (I.set m L) L (N + 1) t') ∧ Kept [gI] W w' := by
  obtain ⟨S, hP, hI, hwr, ht⟩ := h
  have hP2 := hP.mindNew hb (ys := [w.heap.size, gI]) (fun k hk => by
    simp only [List.mem_cons, List.not_mem_nil, or_false] at hk
    rcases hk with h1 | h1
    · subst h1; exact .inr ⟨Nat.le_refl _, (Array.getElem?_eq_some_iff.1 hg).1⟩
    · exact .inl (by simp [h1]))
  have hcon := put_any (c := 512) hP2 (m : Int) w.heap.size (pg 7 L) (length_pg _ _) (by simp) (SrcAt.block hg) L (by omega) (by omega) trivial hI.sound (by omega)
  obtain ⟨T, e1, e2, e3⟩ := hI.put (g0 := gB) hP.handy m hm L hL hKL
  rw [e1] at hcon
  refine hcon.mono ?_
  rintro e w' ⟨rfl, r1, r2⟩
  exact ⟨rfl, ⟨T.fo, T, r1.mind (fun k hk => by simp at hk ⊢; exact .inr hk), e2, by omega, rfl⟩, r2.mono (fun k hk => by simp at hk ⊢; exact .inr hk)⟩
theorem pk_evict (h : PoolK w0 w P G q p gB gI I K N t) (m : Nat) (hm : m < 10) (hN : N ≤ 1000) :
    Calls Try.prog 10 #[.pointer (some ⟨P, 0, none⟩), .int .i64 (m : Int)] w fun e w' => e = .returned (.int .i64 0) ∧ (∃ t', PoolK w0 w' P G q p gB gI I K (N + 1) t') ∧ Kept [gI] w w' ∧
      Calls Try.prog 25 #[.pointer (some ⟨P, 0, none⟩), .int .i64 (m : Int)] w' fun e w'' => e = .returned (.bool false) ∧ w'' = w' := by
  obtain ⟨S, hP, hI, hwr, ht⟩ := h
  have hcon := evict_any hP (m : Int) trivial hI.sound (by omega)
  obtain ⟨T, e1, e2, e3, e4⟩ := hI.evict (g0 := gB) m hm
  rw [e1] at hcon
  refine hcon.mono ?_
  rintro e w' ⟨rfl, r1, r2⟩
  refine ⟨rfl, ⟨T.fo, T, r1, e2, by omega, rfl⟩, r2, ?_⟩
  have hh := pool_has r1 (m : Int)
  have e4' : Pl.find (σ := (Force.top gB).σ) T (m : Int) = none := e4
  simp only [e4'] at hh
  exact hh
theorem pk_get (h : PoolK w0 w P G q p gB gI I K N t) (m : Nat) (hm : m < 10) (hN : N ≤ 1000) :
    Calls Try.prog 19 #[.pointer (some ⟨P, 0, none⟩), .int .i64 (m : Int)] w fun e w' => ∃ g c, e = .returned (.tuple #[.slice (some ⟨g, 0, none⟩) 512 c, .int .i64 0]) ∧ SrcAt w' g 0 (cont (I.getD m 0)) ∧ (∃ t', PoolK w0 w' P G q p gB gI I K (N + 1) t') ∧ Kept [gI] w w' := by
  obtain ⟨S, hP, hI, hwr, ht⟩ := h
  obtain ⟨T, e1, e2, e3⟩ := hI.get (g0 := gB) hP.handy m hm
  have hcon := get_ok hP (m : Int) trivial hI.sound hI.full (by omega) (by rw [e1])
  rw [e1] at hcon
  refine hcon.mono ?_
  rintro e w' ⟨g, c, cur, rfl, r0, r1, r2, r3⟩
  exact ⟨g, c, rfl, r1.src, ⟨T.fo, T, r2.mind (fun k hk => by simp at hk ⊢; exact .inr hk), e2, by omega, rfl⟩, r3⟩
theorem pk_read (h : PoolK w0 w P G q p gB gI I K N t) (m : Nat) (hm : m < 10) :
    Calls Try.prog 11 #[.pointer (some ⟨q, 0, none⟩), .int .i64 (m : Int)] w fun e w' => ∃ g l, e = .returned (.tuple #[.slice (some ⟨g, 0, none⟩) 512 512, .int .i64 0]) ∧ 0 ≤ l ∧ l ≤ t ∧ w'.heap[g]? = some (.cells (secCells (cont l)).toArray 5 (0, 0)) ∧
      PoolK w0 w' P G q p gB gI I K N t ∧ Kept [gI] w w' := by
  obtain ⟨S, ⟨bl, ff, vs, D, hP⟩, hI, hwr, ht⟩ := h
  obtain ⟨l, l1, l2, l3⟩ := hI.dk m hm
  refine (pool_fread hP m hm).mono ?_
  rintro e w' ⟨g, rfl, h1, h2, ⟨D', h3⟩, h4⟩
  have l3' : (show Pl (Force.top gB).σ from S).disk.getD m [] = cont l := l3
  rw [l3] at h2
  exact ⟨g, l, rfl, l1, by omega, h2, ⟨S, h3.at.mind (fun k hk => by simp at hk ⊢; exact .inr hk), hI, hwr, ht⟩, h4⟩
end
/-- A new pool of PoolKeeps. -/
theorem pk_new {w0 w : World} {q p gB : Nat} {D : Dv} (m : Nat) (h1 : 1 ≤ m) (h2 : m ≤ 64) (hF : Fs w0 w q p 0 10 false [gB] D) (hw : D.well) (hn : D.W = []) (hl : 45 ≤ D.L.length) (hd : ∀ i, i < 10 → pageL D.L (0 + 5 + 4 * i) = (List.replicate 10 (zerosN 512)).getD i [])
    (hg : w.heap[gB]? = some (.cells #[.int .i64 0] 3 (0, 0))) (hg0 : w0.heap.size ≤ gB) :
    Calls Try.prog 8 #[.pointer (some ⟨q, 0, none⟩), .int .i64 (m : Int), .func (.func 26) #[] #[.pointer (some ⟨gB, 0, none⟩)]] w fun e w' => ∃ P G, e = .returned (.tuple #[.pointer (some ⟨P, 0, none⟩), .int .i64 0]) ∧ PoolAt (Force.top gB) w0 w' P G q p 10 [] (Pl.made m (List.replicate 10 (zerosN 512)) (0 : Int)) ∧ Below w.heap.size w w' :=
  newp_ok (Φ := Force.top gB) (ff := [gB]) (xs := []) m h1 h2 hF hw hn hl (List.replicate 10 (zerosN 512)) hd (by simp) (disk_len 10) (0 : Int) ⟨rfl, hg⟩ (fun k hk => by simp at hk; subst hk; exact hg0) (fun k hk => by simp)
end Go.Proofs.Ytifoafiidplpiaa
