/- Lines, dirty pages and ints that came in. -/
import Derived.Test.YtpjppolbkdnkaaaTo
import Derived.ProofKit
import Derived.OpenShut
import Derived.ChangeSlices
import Derived.Deep.Grids
namespace Go.Proofs.Ytpjppolbkdnkaaa
open Go.ChangeShapes Go.WideShapes Go.ChangeAt Go.RowKit
set_option linter.unusedVariables false
set_option linter.unusedSimpArgs false

theorem Try.cells3 : Try.prog.cellsOf 3 = 1 := by kernel_rfl
theorem in64_of {n : Int} (h : (Lit.int .i64 n).wf = true) : In64 n := by
  have h : (decide (IntKind.i64.min ≤ n) && decide (n ≤ IntKind.i64.max)) = true := h
  rw [Bool.and_eq_true, decide_eq_true_eq, decide_eq_true_eq] at h
  exact h
theorem spot_of {W : World} {b o j : Nat} {sp} {v : Value} (h : W.cell? ((⟨b, o, sp⟩ : Addr).add j) = some v) (hj : j = 0) : sp = none := by
  subst hj
  simpa [Addr.add] using World.cell?_spot h
theorem chooseL {α : Type} {p : Nat → α → Prop} : ∀ (n : Nat), (∀ k, k < n → ∃ R, p k R) → ∃ Rs : List α, Rs.length = n ∧ ∀ (k : Nat) x, Rs[k]? = some x → p k x
  | 0, _ => ⟨[], rfl, fun k x hk => by simp at hk⟩
  | n + 1, h => by
    obtain ⟨Rs, hl, hp⟩ := chooseL n (fun k hk => h k (by omega))
    obtain ⟨R, hR⟩ := h n (by omega)
    refine ⟨Rs ++ [R], by simp [hl], fun k x hk => ?_⟩
    by_cases e : k < n
    · rw [List.getElem?_append_left (by omega)] at hk
      exact hp k x hk
    · rw [List.getElem?_append_right (by omega)] at hk
      have hkl := (List.getElem?_eq_some_iff.1 hk).1
      simp at hkl
      have e : k = n := by omega
      subst e
      rw [hl] at hk
      simp at hk
      subst hk
      exact hR
/-- Rows of structs, each some data. -/
theorem rows_of {α H : Type} {enc : TypeId × Value → H} {W : World} {held : Bool} {fuel : Nat} {t e : TypeId} (hu : Try.prog.underlying t = some (.slice e)) (sz : Nat) (hsz : Try.prog.cellsOf e = sz) (hs0 : 0 < sz) (cells : α → List Value) (ok : α → Prop) (hlen : ∀ x, (cells x).length = sz)
    (hone : ∀ fuel cs y, cs.length = sz → DataW.trod enc Try.prog W 0 (fun _ => true) held fuel e cs = some y → ∃ x, cells x = cs ∧ ok x)
    {v : Value} {x : DataW H × List MemPlace} (h : DataW.trod enc Try.prog W 0 (fun _ => true) held fuel t [v] = some x) :
    ∃ (a : Option Addr) (c : Nat) (L : List α), v = .slice a L.length c ∧ L.length ≤ c ∧ c ≤ maxLen ∧ (a = none → L = [] ∧ c = 0) ∧ (∀ (i : Nat) (q : α), L[i]? = some q → ok q ∧ ∃ b o, a = some ⟨b, o, none⟩ ∧ b < W.heap.size ∧ W.rangeAt b (o + i * sz) (cells q)) := by
  rcases Deep.open_slice hu h with ⟨hcs, _⟩ | ⟨a', len', cap', m, n, D, Pl, hcs, hb, hl, hm, hmm, hxx, hx⟩
  · simp at hcs
    subst hcs
    exact ⟨none, 0, [], rfl, Nat.le_refl _, Nat.zero_le _, fun _ => ⟨rfl, rfl⟩, fun i q hq => by simp at hq⟩
  · simp at hcs
    subst hcs
    simp only [if_true] at hmm
    subst hmm
    have key : ∀ k, k < len' → ∃ q : α, ok q ∧ ∀ j u, (cells q)[j]? = some u → W.cell? ((a'.add (k * sz)).add j) = some u := fun k hk => by
      obtain ⟨cs, hc, ht⟩ := hx k (by omega)
      rw [hsz] at hc
      obtain ⟨_, hlen', hcell⟩ := World.cells?_some hc
      obtain ⟨q, h1, h2⟩ := hone _ cs _ hlen' ht
      refine ⟨q, h2, fun j u hu => ?_⟩
      rw [h1] at hu
      have hj := (List.getElem?_eq_some_iff.1 hu).1
      have := hcell j (by omega)
      rw [this]
      exact hu
    obtain ⟨L, hLl, hL⟩ := chooseL len' key
    obtain ⟨b, o, sp⟩ := a'
    refine ⟨_, _, L, by rw [hLl], by rw [hLl]; exact hl, hm, (fun e => by cases e), fun i q hq => ?_⟩
    have hsp : sp = none := by
      obtain ⟨q0, hq0⟩ : ∃ q0, L[0]? = some q0 := ⟨_, List.getElem?_eq_getElem (by have := (List.getElem?_eq_some_iff.1 hq).1; omega)⟩
      obtain ⟨u, hu⟩ : ∃ u, (cells q0)[0]? = some u := ⟨_, List.getElem?_eq_getElem (by rw [hlen]; exact hs0)⟩
      have := (hL 0 q0 hq0).2 0 u hu
      exact spot_of (j := 0) (v := u) (by simpa [Addr.add] using this) rfl
    subst hsp
    refine ⟨(hL i q hq).1, b, o, rfl, ?_, fun j u hu => ?_⟩
    · obtain ⟨u, hu⟩ : ∃ u, (cells q)[0]? = some u := ⟨_, List.getElem?_eq_getElem (by rw [hlen]; exact hs0)⟩
      have := (hL i q hq).2 0 u hu
      rw [Addr.add_mid, Addr.add_mid] at this
      exact World.block_lt_of_cell? _ _ this
    · have := (hL i q hq).2 j u hu
      rwa [Addr.add_mid, Addr.add_mid] at this
section
variable {H : Type} {enc : TypeId × Value → H} {W : World} {held : Bool} {fuel : Nat}
set_option maxRecDepth 100000 in
theorem dirt_one (cs : List Value) (y : DataW H × List MemPlace) (hl : cs.length = 2) (h : DataW.trod enc Try.prog W 0 (fun _ => true) held fuel 36 cs = some y) : ∃ x : Int × Int, [Value.int .i64 x.1, .int .i64 x.2] = cs ∧ (In64 x.1 ∧ In64 x.2) := by
  obtain ⟨xs, n', _, _, _, hxl, hf⟩ := DataW.trod_struct Try.underlying36 h
  match cs, hl with
  | [v0, v1], _ =>
    have hxl : xs.length = 2 := hxl
    match xs, hxl with
    | [y0, y1], _ =>
      have g0 := hf 0 _ rfl
      have g1 := hf 1 _ rfl
      simp [Try.cells3] at g0 g1
      obtain ⟨i0, q0, _, w0⟩ := DataW.trod_int Try.underlying3 g0
      obtain ⟨i1, q1, _, w1⟩ := DataW.trod_int Try.underlying3 g1
      simp only [List.cons.injEq, and_true] at q0 q1
      subst q0 q1
      exact ⟨(i0, i1), rfl, in64_of w0, in64_of w1⟩
set_option maxRecDepth 100000 in
theorem tx_one (cs : List Value) (y : DataW H × List MemPlace) (hl : cs.length = 3) (h : DataW.trod enc Try.prog W 0 (fun _ => true) held fuel 47 cs = some y) : ∃ x : Tx, txCells x = cs ∧ True := by
  obtain ⟨xs, n', _, _, _, hxl, hf⟩ := DataW.trod_struct Try.underlying47 h
  match cs, hl with
  | [v0, v1, v2], _ =>
    have hxl : xs.length = 3 := hxl
    match xs, hxl with
    | [y0, y1, y2], _ =>
      have g0 := hf 0 _ rfl
      have g1 := hf 1 _ rfl
      have g2 := hf 2 _ rfl
      simp [Try.cells3] at g0 g1 g2
      obtain ⟨i0, q0, _, w0⟩ := DataW.trod_int Try.underlying3 g0
      obtain ⟨i1, q1, _, w1⟩ := DataW.trod_int Try.underlying3 g1
      obtain ⟨i2, q2, _, w2⟩ := DataW.trod_int Try.underlying3 g2
      simp only [List.cons.injEq, and_true] at q0 q1 q2
      subst q0 q1 q2
      exact ⟨⟨i0, i1, i2⟩, rfl, trivial⟩
theorem dirts_of {v : Value} {x : DataW H × List MemPlace} (h : DataW.trod enc Try.prog W 0 (fun _ => true) held fuel 26 [v] = some x) :
    ∃ (a : Option Addr) (c : Nat) (D : List (Int × Int)), v = .slice a D.length c ∧ D.length ≤ 9223372036854775807 ∧ (∀ q ∈ D, In64 q.1 ∧ In64 q.2) ∧ DirtsIn W a D := by
  obtain ⟨a, c, D, h1, h2, h3, h0, h4⟩ := rows_of (α := Int × Int) Try.underlying26 2 (by kernel_rfl) (by omega) (fun x => [Value.int .i64 x.1, .int .i64 x.2]) (fun x => In64 x.1 ∧ In64 x.2) (fun _ => rfl) (fun fuel cs y hl ht => dirt_one cs y hl ht) h
  refine ⟨a, c, D, h1, by simp only [maxLen] at h3; omega, fun q hq => ?_, fun i q hq => (h4 i q hq).2⟩
  obtain ⟨i, hi, he⟩ := List.getElem_of_mem hq
  exact (h4 i q (by rw [← he]; exact List.getElem?_eq_getElem hi)).1
theorem txs_of {v : Value} {x : DataW H × List MemPlace} (h : DataW.trod enc Try.prog W 0 (fun _ => true) held fuel 25 [v] = some x) :
    ∃ (a : Option Addr) (c : Nat) (T : List Tx), v = .slice a T.length c ∧ T.length ≤ 9223372036854775807 ∧ TxsAt W a T := by
  obtain ⟨a, c, D, h1, h2, h3, h0, h4⟩ := rows_of (α := Tx) Try.underlying25 3 (by kernel_rfl) (by omega) txCells (fun _ => True) (fun _ => rfl) (fun fuel cs y hl ht => tx_one cs y hl ht) h
  exact ⟨a, c, D, h1, by simp only [maxLen] at h3; omega, fun i q hq => (h4 i q hq).2⟩
theorem slice_of {t e : TypeId} (hu : Try.prog.underlying t = some (.slice e)) {v : Value} {x : DataW H × List MemPlace} (h : DataW.trod enc Try.prog W 0 (fun _ => true) held fuel t [v] = some x) : ∃ s : Sv, v = .slice s.a s.n s.c := by
  rcases Deep.open_slice hu h with ⟨hcs, _⟩ | ⟨a', len', cap', m, n, D, Pl, hcs, _⟩
  · simp at hcs
    exact ⟨⟨none, 0, 0⟩, hcs⟩
  · simp at hcs
    exact ⟨⟨_, _, _⟩, hcs⟩
set_option maxRecDepth 100000 in
theorem line_one (cs : List Value) (y : DataW H × List MemPlace) (hl : cs.length = 12) (h : DataW.trod enc Try.prog W 0 (fun _ => true) held fuel 34 cs = some y) : ∃ x : Ln, lnCells x = cs ∧ (x.ok ∧ ListsIn W x) := by
  obtain ⟨xs, n', _, _, _, hxl, hf⟩ := DataW.trod_struct Try.underlying34 h
  have c32 : Try.prog.cellsOf 32 = 11 := by kernel_rfl
  have c30 : Try.prog.cellsOf 30 = 1 := by kernel_rfl
  have c25 : Try.prog.cellsOf 25 = 1 := by kernel_rfl
  have c26 : Try.prog.cellsOf 26 = 1 := by kernel_rfl
  match cs, hl with
  | [u, v0, v1, v2, v3, v4, v5, v6, v7, v8, v9, v10], _ =>
    have hxl : xs.length = 2 := hxl
    match xs, hxl with
    | [y0, y1], _ =>
      have g := hf 0 _ rfl
      have gr := hf 1 _ rfl
      simp [Try.cells3] at g
      simp [Try.cells3, c32] at gr
      obtain ⟨l0, ql, _, wl⟩ := DataW.trod_int Try.underlying3 g
      simp only [List.cons.injEq, and_true] at ql
      subst ql
      obtain ⟨zs, m', _, _, _, hzl, hz⟩ := DataW.trod_struct Try.underlying32 gr
      have hzl : zs.length = 11 := hzl
      match zs, hzl with
      | [z0, z1, z2, z3, z4, z5, z6, z7, z8, z9, z10], _ =>
        have g0 := hz 0 _ rfl
        have g1 := hz 1 _ rfl
        have g2 := hz 2 _ rfl
        have g3 := hz 3 _ rfl
        have g4 := hz 4 _ rfl
        have g5 := hz 5 _ rfl
        have g6 := hz 6 _ rfl
        have g7 := hz 7 _ rfl
        have g8 := hz 8 _ rfl
        have g9 := hz 9 _ rfl
        have g10 := hz 10 _ rfl
        simp [Try.cells3] at g0 g1 g2 g3 g4 g5 g10
        simp [c30] at g6 g7
        simp [c25] at g8
        simp [c26] at g9
        obtain ⟨i0, q0, _, w0⟩ := DataW.trod_int Try.underlying3 g0
        obtain ⟨i1, q1, _, w1⟩ := DataW.trod_int Try.underlying3 g1
        obtain ⟨i2, q2, _, w2⟩ := DataW.trod_int Try.underlying3 g2
        obtain ⟨i3, q3, _, w3⟩ := DataW.trod_int Try.underlying3 g3
        obtain ⟨i4, q4, _, w4⟩ := DataW.trod_int Try.underlying3 g4
        obtain ⟨i5, q5, _, w5⟩ := DataW.trod_int Try.underlying3 g5
        obtain ⟨i10, q10, _, w10⟩ := DataW.trod_int Try.underlying3 g10
        simp only [List.cons.injEq, and_true] at q0 q1 q2 q3 q4 q5 q10
        subst q0 q1 q2 q3 q4 q5 q10
        obtain ⟨sb, rfl⟩ := slice_of Try.underlying30 g6
        obtain ⟨sa, rfl⟩ := slice_of Try.underlying30 g7
        obtain ⟨at', ct, T, rfl, hT1, hT2⟩ := txs_of g8
        obtain ⟨ad, cd, D, rfl, hD1, hD2, hD3⟩ := dirts_of g9
        refine ⟨⟨l0, i0, i1, i2, i3, i4, i5, i10, sb, sa, ⟨at', T.length, ct⟩, ⟨ad, D.length, cd⟩⟩, rfl, ⟨in64_of wl, in64_of w0, in64_of w1, in64_of w2, in64_of w3, in64_of w4, in64_of w5, in64_of w10⟩, ⟨D, rfl, hD1, hD3⟩, ⟨T, rfl, hT1, hT2⟩⟩
theorem lines_of {v : Value} {x : DataW H × List MemPlace} (h : DataW.trod enc Try.prog W 0 (fun _ => true) held fuel 23 [v] = some x) :
    ∃ (a : Option Addr) (c : Nat) (L : List Ln), v = .slice a L.length c ∧ L.length ≤ c ∧ c ≤ 9223372036854775807 ∧ (a = none → L = [] ∧ c = 0) ∧ LinesIn W a L ∧ ∀ q ∈ L, ListsIn W q := by
  obtain ⟨a, c, L, h1, h2, h3, h0, h4⟩ := rows_of (α := Ln) Try.underlying23 12 (by kernel_rfl) (by omega) lnCells (fun x => x.ok ∧ ListsIn W x) (fun _ => rfl) (fun fuel cs y hl ht => line_one cs y hl ht) h
  refine ⟨a, c, L, h1, h2, by simp only [maxLen] at h3; omega, h0, fun i q hq => ⟨(h4 i q hq).1.1, (h4 i q hq).2⟩, fun q hq => ?_⟩
  obtain ⟨i, hi, he⟩ := List.getElem_of_mem hq
  exact (h4 i q (by rw [← he]; exact List.getElem?_eq_getElem hi)).1.2
def IntsIn (w : World) (a : Option Addr) (l : List Int) : Prop := ∀ (i : Nat) (v : Int), l[i]? = some v → In64 v ∧ ∃ b o, a = some ⟨b, o, none⟩ ∧ b < w.heap.size ∧ w.cell? ⟨b, o + i, none⟩ = some (.int .i64 v)
theorem int_one (cs : List Value) (y : DataW H × List MemPlace) (hl : cs.length = 1) (h : DataW.trod enc Try.prog W 0 (fun _ => true) held fuel 3 cs = some y) : ∃ x : Int, [Value.int .i64 x] = cs ∧ In64 x := by
  match cs, hl with
  | [v0], _ =>
    obtain ⟨i0, q0, _, w0⟩ := DataW.trod_int Try.underlying3 h
    simp only [List.cons.injEq, and_true] at q0
    subst q0
    exact ⟨i0, rfl, in64_of w0⟩
theorem ints_of {v : Value} {x : DataW H × List MemPlace} (h : DataW.trod enc Try.prog W 0 (fun _ => true) held fuel 49 [v] = some x) :
    ∃ (a : Option Addr) (c : Nat) (l : List Int), v = .slice a l.length c ∧ l.length ≤ 9223372036854775807 ∧ IntsIn W a l := by
  obtain ⟨a, c, L, h1, h2, h3, h0, h4⟩ := rows_of (α := Int) Try.underlying49 1 Try.cells3 (by omega) (fun x => [Value.int .i64 x]) In64 (fun _ => rfl) (fun fuel cs y hl ht => int_one cs y hl ht) h
  refine ⟨a, c, L, h1, by simp only [maxLen] at h3; omega, fun i q hq => ?_⟩
  obtain ⟨k1, b, o, k2, k3, k4⟩ := h4 i q hq
  exact ⟨k1, b, o, k2, k3, by simpa using k4 0 _ rfl⟩
end
end Go.Proofs.Ytpjppolbkdnkaaa
