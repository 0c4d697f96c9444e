/- Records and bytes that came in. -/
import Derived.Test.YtmfiafdhflaafaaEnc
import Derived.ProofKit
import Derived.OpenShut
import Derived.ChangeSlices
import Derived.Deep.Grids
import Derived.Deep.Matrix
namespace Go.Proofs.Ytmfiafdhflaafaa
open Go.ChangeShapes Go.WideShapes Go.ChangeAt Go.RowKit
set_option linter.unusedVariables false
set_option linter.unusedSimpArgs false

/-! ### Bulk -/
theorem bulk_one {H : Type} (d : DataW H) : 1 ≤ Rows.uptoBulk d := by
  cases d with
  | lit l => cases l <;> simp [Rows.uptoBulk]
  | nil => simp [Rows.uptoBulk]
  | ptr d => simp [Rows.uptoBulk]
  | slice elems spare => simp [Rows.uptoBulk]
  | agg parts => simp [Rows.uptoBulk]
  | iface t d => simp [Rows.uptoBulk]
  | map entries => simp [Rows.uptoBulk]
  | held h => simp [Rows.uptoBulk]
theorem bulk_part {H : Type} {d : DataW H} {l : List (DataW H)} (h : d ∈ l) : Rows.uptoBulk d ≤ Rows.uptoBulkAll l := by
  induction l with
  | nil => cases h
  | cons x r ih =>
    simp only [Rows.uptoBulkAll]
    cases List.mem_cons.1 h with
    | inl e => subst e; omega
    | inr e => have := ih e; omega
theorem bulk_len {H : Type} (l : List (DataW H)) : l.length ≤ Rows.uptoBulkAll l := by
  induction l with
  | nil => simp [Rows.uptoBulkAll]
  | cons x r ih => have := bulk_one x; simp only [Rows.uptoBulkAll, List.length_cons]; omega
theorem bulk_slice {H : Type} (elems spare : List (DataW H)) : elems.length + spare.length + 1 ≤ Rows.uptoBulk (.slice elems spare) := by
  have h1 := bulk_len elems
  have h2 := bulk_len spare
  simp only [Rows.uptoBulk]
  omega
theorem bulk_bound {H : Type} {l : List (DataW H)} (hk : Rows.uptoSmall H l = true) : Rows.uptoBulkAll l ≤ 1048576 := of_decide_eq_true hk

/-! ### Bytes -/
def bytesOfInts (zs : List Int) : List UInt8 := zs.map fun n => UInt8.ofNat n.toNat
theorem bytes_cell (zs : List Int) (hz : ∀ n ∈ zs, (Lit.int .u8 n).wf = true) (j : Nat) (u : Value) (hu : (secCells (bytesOfInts zs))[j]? = some u) : j < zs.length ∧ u = .int .u8 (zs.getD j 0) := by
  simp only [secCells, bytesOfInts, List.getElem?_map, Option.map_map] at hu
  cases hj : zs[j]? with
  | none => simp [hj] at hu
  | some n =>
    have hlt : j < zs.length := (List.getElem?_eq_some_iff.1 hj).1
    refine ⟨hlt, ?_⟩
    have hn : zs.getD j 0 = n := by simp [hj]
    rw [hn]
    have hw := hz n (List.mem_of_getElem? hj)
    have hw2 : (0 : Int) ≤ n ∧ n ≤ 255 := by
      have h : (decide (IntKind.u8.min ≤ n) && decide (n ≤ IntKind.u8.max)) = true := hw
      rw [Bool.and_eq_true, decide_eq_true_eq, decide_eq_true_eq] at h
      exact h
    simp [hj] at hu
    rw [← hu, bcell_ofNat _ (by omega)]
    congr 1
    omega
theorem Try.cells5 : Try.prog.cellsOf 5 = 1 := by kernel_rfl
theorem Try.cells3 : Try.prog.cellsOf 3 = 1 := by kernel_rfl
theorem spot_of {W : World} {b o j : Nat} {sp} {v : Value} (h : W.cell? ((⟨b, o, sp⟩ : Addr).add j) = some v) (hj : j = 0) : sp = none := by
  subst hj
  simpa [Addr.add] using World.cell?_spot h
theorem bytes_of {H : Type} {enc : TypeId × Value → H} {w : World} {held : Bool} {fuel : Nat} {v : Value} {x : DataW H × List MemPlace} (h : DataW.trod enc Try.prog w 0 (fun _ => true) held fuel 23 [v] = some x) :
    ∃ bs, Sl w v bs ∧ bs.length ≤ Rows.uptoBulk x.1 := by
  rcases ChangeShapes.open_ints Try.underlying23 Try.underlying5 Try.cells5 h with ⟨hcs, hx⟩ | ⟨y, l, c, zs, hcs, _, hl, hm, hz, hx, hcell, hwz⟩
  · simp at hcs
    subst hcs
    exact ⟨[], Row.nil w, Nat.zero_le _⟩
  · simp at hcs
    subst hcs
    simp at hz
    have hlen : (bytesOfInts (zs.take l)).length = l := by simp [bytesOfInts]; omega
    refine ⟨bytesOfInts (zs.take l), ⟨some y, c, by rw [hlen], by rw [hlen]; exact hl, hm, fun hne => ?_⟩, ?_⟩
    · obtain ⟨b, o, sp⟩ := y
      have h0 : 0 < l := by
        rcases Nat.eq_zero_or_pos l with h | h
        · subst h; exact absurd rfl hne
        · exact h
      have hsp : sp = none := spot_of (hcell 0 (by omega)) rfl
      subst hsp
      refine ⟨b, o, rfl, fun j u hu => ?_⟩
      obtain ⟨hj, rfl⟩ := bytes_cell _ (fun n hn => hwz n (List.mem_of_mem_take hn)) j u hu
      rw [List.length_take] at hj
      have := hcell j (by omega)
      rw [Addr.add_mid] at this
      rw [this]
      congr 2
      simp only [List.getD_eq_getElem?_getD, List.getElem?_take]
      rw [if_pos (by omega)]
    · rw [hlen]
      have hx1 : x.1 = _ := congrArg Prod.fst hx
      rw [hx1]
      refine Nat.le_trans ?_ (Nat.le_of_succ_le (bulk_slice _ _))
      simp [lits]
      omega

/-! ### Rows of structs of ints -/
def rdInt (w : World) (a : Addr) : Int := match w.cell? a with | some (.int .i64 x) => x | _ => 0
theorem rdInt_eq {w : World} {a : Addr} {x : Int} (h : w.cell? a = some (.int .i64 x)) : w.cell? a = some (.int .i64 (rdInt w a)) := by
  rw [h]; simp [rdInt, h]
theorem rdInt_val {w : World} {a : Addr} {x : Int} (h : w.cell? a = some (.int .i64 x)) : rdInt w a = x := by simp [rdInt, h]
theorem txs_of {H : Type} {enc : TypeId × Value → H} {W : World} {held : Bool} {fuel : Nat} {v : Value} {x : DataW H × List MemPlace}
    (h : DataW.trod enc Try.prog W 0 (fun _ => true) held fuel 25 [v] = some x) :
    ∃ l, Row W v l.length (txCells l) ∧ (∀ t ∈ l, ∀ n ∈ [t.1, t.2.1, t.2.2], -9223372036854775808 ≤ n ∧ n ≤ 9223372036854775807) ∧ l.length ≤ Rows.uptoBulk x.1 := by
  rcases Deep.open_slice Try.underlying25 h with ⟨hcs, _⟩ | ⟨a', len', cap', m, n, D, Pl, hcs, hb, hl, hm, hmm, hxx, hx⟩
  · simp at hcs
    subst hcs
    exact ⟨[], Row.nil W, by simp, Nat.zero_le _⟩
  · simp at hcs
    subst hcs
    simp only [if_true] at hmm
    subst hmm
    have c43 : Try.prog.cellsOf 43 = 3 := by kernel_rfl
    have key : ∀ k, k < len' → ∃ i0 i1 i2 : Int, W.cell? (a'.add (k * 3)) = some (.int .i64 i0) ∧ W.cell? ((a'.add (k * 3)).add 1) = some (.int .i64 i1) ∧ W.cell? ((a'.add (k * 3)).add 2) = some (.int .i64 i2) ∧ (-9223372036854775808 ≤ i0 ∧ i0 ≤ 9223372036854775807) ∧ (-9223372036854775808 ≤ i1 ∧ i1 ≤ 9223372036854775807) ∧ (-9223372036854775808 ≤ i2 ∧ i2 ≤ 9223372036854775807) := fun k hk => by
      obtain ⟨cs, hc, ht⟩ := hx k (by omega)
      rw [c43] at hc
      obtain ⟨_, hlen, hcell⟩ := World.cells?_some hc
      obtain ⟨xs, n', _, _, _, hxl, hf⟩ := DataW.trod_struct Try.underlying43 ht
      match cs, hlen with
      | [v0, v1, v2], _ =>
        have g0 := hf 0 _ rfl
        have g1 := hf 1 _ rfl
        have g2 := hf 2 _ rfl
        have hs : ∀ i, i < 3 → ∃ y, xs[i]? = some y := fun i hi => ⟨_, List.getElem?_eq_getElem (by rw [hxl]; exact hi)⟩
        obtain ⟨y0, e0⟩ := hs 0 (by omega)
        obtain ⟨y1, e1⟩ := hs 1 (by omega)
        obtain ⟨y2, e2⟩ := hs 2 (by omega)
        rw [e0] at g0
        rw [e1] at g1
        rw [e2] at g2
        simp [Try.cells3] at g0 g1 g2
        obtain ⟨i0, q0, _, w0⟩ := DataW.trod_int Try.underlying3 g0
        obtain ⟨i1, q1, _, w1⟩ := DataW.trod_int Try.underlying3 g1
        obtain ⟨i2, q2, _, w2⟩ := DataW.trod_int Try.underlying3 g2
        simp only [List.cons.injEq, and_true] at q0 q1 q2
        subst q0 q1 q2
        refine ⟨i0, i1, i2, ?_, hcell 1 (by omega), hcell 2 (by omega), bounds_i64 w0, bounds_i64 w1, bounds_i64 w2⟩
        have := hcell 0 (by omega)
        rw [show ((a'.add (k * 3)).add 0) = a'.add (k * 3) by simp [Addr.add]] at this
        exact this
    have hxb : len' ≤ Rows.uptoBulk x.1 := by
      have hx1 : x.1 = _ := congrArg Prod.fst hxx
      rw [hx1]
      refine Nat.le_trans ?_ (Nat.le_of_succ_le (bulk_slice _ _))
      simp
    obtain ⟨b, o, sp⟩ := a'
    by_cases h0 : len' = 0
    · subst h0
      exact ⟨[], ⟨_, _, rfl, hl, hm, fun h => absurd rfl h⟩, by simp, Nat.zero_le _⟩
    · have hsp : sp = none := by
        obtain ⟨i0, _, _, k0, _⟩ := key 0 (by omega)
        exact spot_of k0 (by omega)
      subst hsp
      refine ⟨(List.range len').map fun k => (rdInt W ⟨b, o + k * 3, none⟩, rdInt W ⟨b, o + k * 3 + 1, none⟩, rdInt W ⟨b, o + k * 3 + 2, none⟩), ⟨_, _, by rw [List.length_map, List.length_range], by rw [List.length_map, List.length_range]; exact hl, hm, fun _ => ⟨b, o, rfl, fun j u hu => ?_⟩⟩, fun t ht => ?_, by rw [List.length_map, List.length_range]; exact hxb⟩
      · have hjl := (List.getElem?_eq_some_iff.1 hu).1
        rw [length_txCells, List.length_map, List.length_range] at hjl
        have hk : j / 3 < len' := by omega
        obtain ⟨i0, i1, i2, k0, k1, k2, _⟩ := key (j / 3) hk
        rw [Addr.add_mid] at k0 k1 k2
        rw [Addr.add_mid] at k1 k2
        obtain ⟨t0, t1, t2⟩ := txCells_get ((List.range len').map fun k => (rdInt W ⟨b, o + k * 3, none⟩, rdInt W ⟨b, o + k * 3 + 1, none⟩, rdInt W ⟨b, o + k * 3 + 2, none⟩)) (j / 3) (by simpa using hk)
        have hg : ((List.range len').map fun k => (rdInt W ⟨b, o + k * 3, none⟩, rdInt W ⟨b, o + k * 3 + 1, none⟩, rdInt W ⟨b, o + k * 3 + 2, none⟩)).getD (j / 3) (0, 0, 0) = (rdInt W ⟨b, o + j / 3 * 3, none⟩, rdInt W ⟨b, o + j / 3 * 3 + 1, none⟩, rdInt W ⟨b, o + j / 3 * 3 + 2, none⟩) := by simp [hk]
        rw [hg] at t0 t1 t2
        rcases (by omega : j % 3 = 0 ∨ j % 3 = 1 ∨ j % 3 = 2) with hr | hr | hr
        · have hj : j = j / 3 * 3 := by omega
          rw [hj, t0] at hu
          rw [hj, ← Option.some.inj hu]
          exact rdInt_eq k0
        · have hj : j = j / 3 * 3 + 1 := by omega
          rw [hj, t1] at hu
          rw [hj, ← Option.some.inj hu, ← Nat.add_assoc]
          exact rdInt_eq k1
        · have hj : j = j / 3 * 3 + 2 := by omega
          rw [hj, t2] at hu
          rw [hj, ← Option.some.inj hu, ← Nat.add_assoc]
          exact rdInt_eq k2
      · obtain ⟨k, hk, rfl⟩ := List.mem_map.1 ht
        have hk : k < len' := by simpa using hk
        obtain ⟨i0, i1, i2, k0, k1, k2, b0, b1, b2⟩ := key k hk
        rw [Addr.add_mid] at k0 k1 k2
        rw [Addr.add_mid] at k1 k2
        intro n hn
        simp only [rdInt_val k0, rdInt_val k1, rdInt_val k2] at hn
        simp at hn
        rcases hn with rfl | rfl | rfl
        · exact b0
        · exact b1
        · exact b2
theorem dts_of {H : Type} {enc : TypeId × Value → H} {W : World} {held : Bool} {fuel : Nat} {v : Value} {x : DataW H × List MemPlace}
    (h : DataW.trod enc Try.prog W 0 (fun _ => true) held fuel 26 [v] = some x) :
    ∃ l, Row W v l.length (dtCells l) ∧ (∀ t ∈ l, ∀ n ∈ [t.1, t.2], -9223372036854775808 ≤ n ∧ n ≤ 9223372036854775807) ∧ l.length ≤ Rows.uptoBulk x.1 := by
  rcases Deep.open_slice Try.underlying26 h with ⟨hcs, _⟩ | ⟨a', len', cap', m, n, D, Pl, hcs, hb, hl, hm, hmm, hxx, hx⟩
  · simp at hcs
    subst hcs
    exact ⟨[], Row.nil W, by simp, Nat.zero_le _⟩
  · simp at hcs
    subst hcs
    simp only [if_true] at hmm
    subst hmm
    have c45 : Try.prog.cellsOf 45 = 2 := by kernel_rfl
    have key : ∀ k, k < len' → ∃ i0 i1 : Int, W.cell? (a'.add (k * 2)) = some (.int .i64 i0) ∧ W.cell? ((a'.add (k * 2)).add 1) = some (.int .i64 i1) ∧ (-9223372036854775808 ≤ i0 ∧ i0 ≤ 9223372036854775807) ∧ (-9223372036854775808 ≤ i1 ∧ i1 ≤ 9223372036854775807) := fun k hk => by
      obtain ⟨cs, hc, ht⟩ := hx k (by omega)
      rw [c45] at hc
      obtain ⟨_, hlen, hcell⟩ := World.cells?_some hc
      obtain ⟨xs, n', _, _, _, hxl, hf⟩ := DataW.trod_struct Try.underlying45 ht
      match cs, hlen with
      | [v0, v1], _ =>
        have g0 := hf 0 _ rfl
        have g1 := hf 1 _ rfl
        have hs : ∀ i, i < 2 → ∃ y, xs[i]? = some y := fun i hi => ⟨_, List.getElem?_eq_getElem (by rw [hxl]; exact hi)⟩
        obtain ⟨y0, e0⟩ := hs 0 (by omega)
        obtain ⟨y1, e1⟩ := hs 1 (by omega)
        rw [e0] at g0
        rw [e1] at g1
        simp [Try.cells3] at g0 g1
        obtain ⟨i0, q0, _, w0⟩ := DataW.trod_int Try.underlying3 g0
        obtain ⟨i1, q1, _, w1⟩ := DataW.trod_int Try.underlying3 g1
        simp only [List.cons.injEq, and_true] at q0 q1
        subst q0 q1
        refine ⟨i0, i1, ?_, hcell 1 (by omega), bounds_i64 w0, bounds_i64 w1⟩
        have := hcell 0 (by omega)
        rw [show ((a'.add (k * 2)).add 0) = a'.add (k * 2) by simp [Addr.add]] at this
        exact this
    have hxb : len' ≤ Rows.uptoBulk x.1 := by
      have hx1 : x.1 = _ := congrArg Prod.fst hxx
      rw [hx1]
      refine Nat.le_trans ?_ (Nat.le_of_succ_le (bulk_slice _ _))
      simp
    obtain ⟨b, o, sp⟩ := a'
    by_cases h0 : len' = 0
    · subst h0
      exact ⟨[], ⟨_, _, rfl, hl, hm, fun h => absurd rfl h⟩, by simp, Nat.zero_le _⟩
    · have hsp : sp = none := by
        obtain ⟨i0, _, k0, _⟩ := key 0 (by omega)
        exact spot_of k0 (by omega)
      subst hsp
      refine ⟨(List.range len').map fun k => (rdInt W ⟨b, o + k * 2, none⟩, rdInt W ⟨b, o + k * 2 + 1, none⟩), ⟨_, _, by rw [List.length_map, List.length_range], by rw [List.length_map, List.length_range]; exact hl, hm, fun _ => ⟨b, o, rfl, fun j u hu => ?_⟩⟩, fun t ht => ?_, by rw [List.length_map, List.length_range]; exact hxb⟩
      · have hjl := (List.getElem?_eq_some_iff.1 hu).1
        rw [length_dtCells, List.length_map, List.length_range] at hjl
        have hk : j / 2 < len' := by omega
        obtain ⟨i0, i1, k0, k1, _⟩ := key (j / 2) hk
        rw [Addr.add_mid] at k0 k1
        rw [Addr.add_mid] at k1
        obtain ⟨t0, t1⟩ := dtCells_get ((List.range len').map fun k => (rdInt W ⟨b, o + k * 2, none⟩, rdInt W ⟨b, o + k * 2 + 1, none⟩)) (j / 2) (by simpa using hk)
        have hg : ((List.range len').map fun k => (rdInt W ⟨b, o + k * 2, none⟩, rdInt W ⟨b, o + k * 2 + 1, none⟩)).getD (j / 2) (0, 0) = (rdInt W ⟨b, o + j / 2 * 2, none⟩, rdInt W ⟨b, o + j / 2 * 2 + 1, none⟩) := by simp [hk]
        rw [hg] at t0 t1
        rcases (by omega : j % 2 = 0 ∨ j % 2 = 1) with hr | hr
        · have hj : j = j / 2 * 2 := by omega
          rw [hj, t0] at hu
          rw [hj, ← Option.some.inj hu]
          exact rdInt_eq k0
        · have hj : j = j / 2 * 2 + 1 := by omega
          rw [hj, t1] at hu
          rw [hj, ← Option.some.inj hu, ← Nat.add_assoc]
          exact rdInt_eq k1
      · obtain ⟨k, hk, rfl⟩ := List.mem_map.1 ht
        have hk : k < len' := by simpa using hk
        obtain ⟨i0, i1, k0, k1, b0, b1⟩ := key k hk
        rw [Addr.add_mid] at k0 k1
        rw [Addr.add_mid] at k1
        intro n hn
        simp only [rdInt_val k0, rdInt_val k1] at hn
        simp at hn
        rcases hn with rfl | rfl
        · exact b0
        · exact b1

/-! ### A record -/
theorem rec_of {H : Type} {enc : TypeId × Value → H} {W : World} {held : Bool} {fuel : Nat} {cs : List Value} {x : DataW H × List MemPlace} (h : DataW.trod enc Try.prog W 0 (fun _ => true) held fuel 28 cs = some x) :
    ∃ R, RecVal W (.agg cs.toArray) R ∧ R.wf ∧ R.size ≤ 96 + 24 * Rows.uptoBulk x.1 := by
  obtain ⟨xs, n', _, hx, hlen, hxl, hf⟩ := DataW.trod_struct Try.underlying28 h
  have c28 : Try.prog.cellsOf 28 = 11 := by kernel_rfl
  have c23 : Try.prog.cellsOf 23 = 1 := by kernel_rfl
  have c25 : Try.prog.cellsOf 25 = 1 := by kernel_rfl
  have c26 : Try.prog.cellsOf 26 = 1 := by kernel_rfl
  rw [c28] at hlen
  have hxl : xs.length = 11 := hxl
  match cs, hlen with
  | [v0, v1, v2, v3, v4, v5, v6, v7, v8, v9, v10], _ =>
    match xs, hxl with
    | [y0, y1, y2, y3, y4, y5, y6, y7, y8, y9, y10], _ =>
      have g0 := hf 0 _ rfl
      have g1 := hf 1 _ rfl
      have g2 := hf 2 _ rfl
      have g3 := hf 3 _ rfl
      have g4 := hf 4 _ rfl
      have g5 := hf 5 _ rfl
      have g6 := hf 6 _ rfl
      have g7 := hf 7 _ rfl
      have g8 := hf 8 _ rfl
      have g9 := hf 9 _ rfl
      have g10 := hf 10 _ rfl
      simp [Try.cells3] at g0 g1 g2 g3 g4 g5 g10
      simp [c23] at g6 g7
      simp [c25] at g8
      simp [c26] at g9
      obtain ⟨i0, q0, _, w0⟩ := DataW.trod_int Try.underlying3 g0
      obtain ⟨i1, q1, _, w1⟩ := DataW.trod_int Try.underlying3 g1
      obtain ⟨i2, q2, _, w2⟩ := DataW.trod_int Try.underlying3 g2
      obtain ⟨i3, q3, _, w3⟩ := DataW.trod_int Try.underlying3 g3
      obtain ⟨i4, q4, _, w4⟩ := DataW.trod_int Try.underlying3 g4
      obtain ⟨i5, q5, _, w5⟩ := DataW.trod_int Try.underlying3 g5
      obtain ⟨i10, q10, _, w10⟩ := DataW.trod_int Try.underlying3 g10
      simp only [List.cons.injEq, and_true] at q0 q1 q2 q3 q4 q5 q10
      subst q0 q1 q2 q3 q4 q5 q10
      obtain ⟨bb, s6, l6⟩ := bytes_of g6
      obtain ⟨ba, s7, l7⟩ := bytes_of g7
      obtain ⟨lt, s8, f8, l8⟩ := txs_of g8
      obtain ⟨ld, s9, f9, l9⟩ := dts_of g9
      refine ⟨⟨i0, i1, i2, i3, i4, i5, bb, ba, lt, ld, i10⟩, ⟨v6, v7, v8, v9, rfl, s6, s7, s8, s9⟩, ⟨?_, f8, f9, bounds_i64 w10⟩, ?_⟩
      · intro z hz
        have b0 := bounds_i64 w0
        have b1 := bounds_i64 w1
        have b2 := bounds_i64 w2
        have b3 := bounds_i64 w3
        have b4 := bounds_i64 w4
        have b5 := bounds_i64 w5
        simp [Rc.head] at hz
        rcases hz with rfl | rfl | rfl | rfl | rfl | rfl <;> assumption
      · have hx1 : x.1 = _ := congrArg Prod.fst hx
        rw [hx1]
        simp only [List.map_cons, List.map_nil, Rows.uptoBulk, Rows.uptoBulkAll, Rc.size]
        omega
theorem rec_arg {H : Type} {enc : TypeId × Value → H} {W : World} {held : Bool} {base : Nat} {v : Value} {d : DataW H} {p : List MemPlace} (hv : Value.okWide Try.prog W .any base 28 v) (h : DataW.Trod enc Try.prog W 0 (fun _ => true) held 28 v d p) :
    ∃ R, RecVal W v R ∧ R.wf ∧ R.size ≤ 96 + 24 * Rows.uptoBulk d := by
  obtain ⟨cs, rfl, hcs⟩ := okWide_struct Try.underlying28 hv
  obtain ⟨fuel, hf⟩ := h
  obtain ⟨R, h1, h2, h3⟩ := rec_of hf
  exact ⟨R, by simpa [Value.cells] using h1, h2, h3⟩
theorem bytes_arg {H : Type} {enc : TypeId × Value → H} {W : World} {held : Bool} {base : Nat} {v : Value} {d : DataW H} {p : List MemPlace} (hv : Value.okWide Try.prog W .any base 23 v) (h : DataW.Trod enc Try.prog W 0 (fun _ => true) held 23 v d p) :
    ∃ bs, Sl W v bs ∧ bs.length ≤ Rows.uptoBulk d := by
  obtain ⟨a, len, cap, rfl⟩ := okWide_slice Try.underlying23 hv
  obtain ⟨fuel, hf⟩ := h
  exact bytes_of hf
end Go.Proofs.Ytmfiafdhflaafaa
