/- Tables that came in. -/
import Derived.Test.YtplpchaceiogaaaDoorTab
import Derived.Test.YtplpchaceiogaaaDoorOpen
namespace Go.Proofs.YtplpchaceiogaaaDoor
set_option maxRecDepth 100000
open Go.ChangeShapes Go.WideShapes Go.ChangeAt Go.RowKit
set_option linter.unusedVariables false
set_option linter.unusedSimpArgs false

theorem choose_gen {H α : Type} (z : α) (wt : α → Nat) {p : Nat → α → Prop} (D : Nat → DataW H) : ∀ (n : Nat), (∀ k, k < n → ∃ R, p k R ∧ wt R ≤ 20 * Rows.uptoBulk (D k)) → ∃ l : List α, l.length = n ∧ (∀ k, k < n → p k (l.getD k z)) ∧ (l.map wt).sum ≤ 20 * Rows.uptoBulkAll ((List.range n).map D)
  | 0, _ => ⟨[], rfl, fun k hk => absurd hk (Nat.not_lt_zero _), by simp⟩
  | n + 1, h => by
    obtain ⟨Rs, hl, hp, hb⟩ := choose_gen z wt D n (fun k hk => h k (by omega))
    obtain ⟨R, hR, hRb⟩ := h n (by omega)
    refine ⟨Rs ++ [R], by simp [hl], fun k hk => ?_, ?_⟩
    · by_cases e : k < n
      · have := hp k e
        simp only [List.getD_eq_getElem?_getD] at this ⊢
        rwa [List.getElem?_append_left (by omega)]
      · have e : k = n := by omega
        subst e
        simp only [List.getD_eq_getElem?_getD]
        rw [List.getElem?_append_right (by omega), hl]
        simpa using hR
    · rw [List.map_append, List.sum_append, List.range_succ, List.map_append]
      simp only [List.map_cons, List.map_nil, List.sum_cons, List.sum_nil]
      rw [bulkAll_snoc]
      omega
theorem structs_of {H α : Type} {enc : TypeId × Value → H} {W : World} {held : Bool} {fuel : Nat} {v : Value} {x : DataW H × List MemPlace} {t e : TypeId} (f : α → List Value) (K : Nat) (hK : ∀ x, (f x).length = K) (hK0 : 0 < K) (z : α) (wt : α → Nat) (ok : α → Prop)
    (ht : Tryd.prog.underlying t = some (.slice e)) (ce : Tryd.prog.cellsOf e = K)
    (one : ∀ (fuel : Nat) (cs : List Value) (y : DataW H × List MemPlace), DataW.trod enc Tryd.prog W 0 (fun _ => true) held fuel e cs = some y → ∃ R, cs = f R ∧ ok R ∧ wt R ≤ 20 * Rows.uptoBulk y.1)
    (h : DataW.trod enc Tryd.prog W 0 (fun _ => true) held fuel t [v] = some x) :
    ∃ l : List α, Row W v l.length (l.flatMap f) ∧ (∀ V ∈ l, ok V) ∧ (l.map wt).sum + 20 ≤ 20 * Rows.uptoBulk x.1 := by
  rcases Deep.open_slice ht h with ⟨hcs, hx⟩ | ⟨a', len', cap', m, n, D, Pl, hcs, hb, hl, hm, hmm, hxx, hx⟩
  · simp at hcs
    subst hcs
    have hx1 : x.1 = _ := congrArg Prod.fst hx
    exact ⟨[], Row.nil W, by simp, by rw [hx1]; simp [Rows.uptoBulk]⟩
  · simp at hcs
    subst hcs
    simp only [if_true] at hmm
    subst hmm
    obtain ⟨Rs, hRl, hR, hRb⟩ := choose_gen z wt (p := fun k R => (∀ j u, (f R)[j]? = some u → W.cell? ((a'.add (k * K)).add j) = some u) ∧ ok R) D len' (fun k hk => by
      obtain ⟨cs, hc, ht⟩ := hx k (by omega)
      rw [ce] at hc
      obtain ⟨_, hlen, hcell⟩ := World.cells?_some hc
      obtain ⟨R, rfl, h2, h3⟩ := one _ _ _ ht
      refine ⟨R, ⟨fun j u hu => ?_, h2⟩, h3⟩
      have hj := (List.getElem?_eq_some_iff.1 hu).1
      have := hcell j (by omega)
      rw [this]
      exact hu)
    have hxb : (Rs.map wt).sum + 20 ≤ 20 * Rows.uptoBulk x.1 := by
      have hx1 : x.1 = _ := congrArg Prod.fst hxx
      rw [hx1]
      simp only [Rows.uptoBulk]
      omega
    obtain ⟨b, o, sp⟩ := a'
    refine ⟨Rs, ⟨_, _, by rw [hRl], by rw [hRl]; exact hl, hm, fun hne => ?_⟩, fun V hV => ?_, hxb⟩
    · have h0 : 0 < len' := by
        rcases Nat.eq_zero_or_pos len' with h | h
        · have : Rs = [] := List.eq_nil_of_length_eq_zero (by omega)
          rw [this] at hne
          exact absurd rfl hne
        · exact h
      have hsp : sp = none := by
        have h1 := (hR 0 h0).1 0
        obtain ⟨u, hu⟩ : ∃ u, (f (Rs.getD 0 z))[0]? = some u := ⟨_, List.getElem?_eq_getElem (by rw [hK]; exact hK0)⟩
        have := h1 u hu
        exact spot_of (j := 0) (by simpa [Addr.add] using this) rfl
      subst hsp
      refine ⟨b, o, rfl, fun j u hu => ?_⟩
      have hjl := (List.getElem?_eq_some_iff.1 hu).1
      rw [flat_length f K hK, hRl] at hjl
      have hk : j / K < len' := (Nat.div_lt_iff_lt_mul hK0).2 hjl
      have h1 := (hR (j / K) hk).1 (j % K) u
      have hj : j / K * K + j % K = j := by rw [Nat.mul_comm]; exact Nat.div_add_mod j K
      have h2 := flat_get f K hK z Rs (j / K) (j % K) (by omega) (Nat.mod_lt _ hK0)
      rw [hj, hu] at h2
      have h3 := h1 h2.symm
      rw [Addr.add_mid, Addr.add_mid, Nat.add_assoc, hj] at h3
      exact h3
    · obtain ⟨k, hk, rfl⟩ := List.mem_iff_getElem.1 hV
      have := (hR k (by omega)).2
      simpa [hk] using this
def in64 (n : Int) : Prop := -9223372036854775808 ≤ n ∧ n ≤ 9223372036854775807
theorem so (s : ByteArray) : strOf s.data.toList = s := by cases s; rfl
theorem Tryd.cells4 : Tryd.prog.cellsOf 4 = 1 := by kernel_rfl
theorem Tryd.cells9 : Tryd.prog.cellsOf 9 = 1 := by kernel_rfl
theorem cl_of {H : Type} {enc : TypeId × Value → H} {W : World} {held : Bool} (fuel : Nat) (cs : List Value) (x : DataW H × List MemPlace) (h : DataW.trod enc Tryd.prog W 0 (fun _ => true) held fuel 24 cs = some x) :
    ∃ C : Cl, cs = clCells C ∧ in64 C.ty ∧ 2 * C.nm.length + 80 ≤ 20 * Rows.uptoBulk x.1 := by
  obtain ⟨xs, n', _, hx, hlen, hxl, hf⟩ := DataW.trod_struct Tryd.underlying24 h
  have c24 : Tryd.prog.cellsOf 24 = 4 := by kernel_rfl
  rw [c24] at hlen
  have hxl : xs.length = 4 := hxl
  match cs, hlen with
  | [v0, v1, v2, v3], _ =>
    match xs, hxl with
    | [y0, y1, y2, y3], _ =>
      have g0 := hf 0 _ rfl
      have g1 := hf 1 _ rfl
      have g2 := hf 2 _ rfl
      have g3 := hf 3 _ rfl
      simp [Tryd.cells9] at g0
      simp [Tryd.cells3] at g1
      simp [Tryd.cells4] at g2 g3
      obtain ⟨s, q0, e0, _⟩ := DataW.trod_string Tryd.underlying9 g0
      obtain ⟨i1, q1, _, w1⟩ := DataW.trod_int Tryd.underlying3 g1
      obtain ⟨b2, q2, _⟩ := DataW.trod_bool Tryd.underlying4 g2
      obtain ⟨b3, q3, _⟩ := DataW.trod_bool Tryd.underlying4 g3
      simp only [List.cons.injEq, and_true] at q0 q1 q2 q3
      subst q0 q1 q2 q3
      refine ⟨⟨s.data.toList, i1, b2, b3⟩, ?_, bounds_i64 w1, ?_⟩
      · simp [clCells, so]
      · have hx1 : x.1 = _ := congrArg Prod.fst hx
        rw [hx1]
        have b1 := bulk_one y1.1
        have b2 := bulk_one y2.1
        have b3 := bulk_one y3.1
        have b0 : Rows.uptoBulk y0.1 = s.data.toList.length + 1 := by rw [e0]; rfl
        simp only [List.map_cons, List.map_nil, Rows.uptoBulk, Rows.uptoBulkAll]
        omega
theorem ix_of {H : Type} {enc : TypeId × Value → H} {W : World} {held : Bool} (fuel : Nat) (cs : List Value) (x : DataW H × List MemPlace) (h : DataW.trod enc Tryd.prog W 0 (fun _ => true) held fuel 85 cs = some x) :
    ∃ X : Ix, cs = ixCells X ∧ in64 X.col ∧ 2 * X.nm.length + 60 ≤ 20 * Rows.uptoBulk x.1 := by
  obtain ⟨xs, n', _, hx, hlen, hxl, hf⟩ := DataW.trod_struct Tryd.underlying85 h
  have c85 : Tryd.prog.cellsOf 85 = 3 := by kernel_rfl
  rw [c85] at hlen
  have hxl : xs.length = 3 := hxl
  match cs, hlen with
  | [v0, v1, v2], _ =>
    match xs, hxl with
    | [y0, y1, y2], _ =>
      have g0 := hf 0 _ rfl
      have g1 := hf 1 _ rfl
      have g2 := hf 2 _ rfl
      simp [Tryd.cells9] at g0
      simp [Tryd.cells3] at g1
      simp [Tryd.cells4] at g2
      obtain ⟨s, q0, e0, _⟩ := DataW.trod_string Tryd.underlying9 g0
      obtain ⟨i1, q1, _, w1⟩ := DataW.trod_int Tryd.underlying3 g1
      obtain ⟨b2, q2, _⟩ := DataW.trod_bool Tryd.underlying4 g2
      simp only [List.cons.injEq, and_true] at q0 q1 q2
      subst q0 q1 q2
      refine ⟨⟨s.data.toList, i1, b2⟩, ?_, bounds_i64 w1, ?_⟩
      · simp [ixCells, so]
      · have hx1 : x.1 = _ := congrArg Prod.fst hx
        rw [hx1]
        have b1 := bulk_one y1.1
        have b2 := bulk_one y2.1
        have b0 : Rows.uptoBulk y0.1 = s.data.toList.length + 1 := by rw [e0]; rfl
        simp only [List.map_cons, List.map_nil, Rows.uptoBulk, Rows.uptoBulkAll]
        omega
theorem int_of {H : Type} {enc : TypeId × Value → H} {W : World} {held : Bool} (fuel : Nat) (cs : List Value) (x : DataW H × List MemPlace) (h : DataW.trod enc Tryd.prog W 0 (fun _ => true) held fuel 3 cs = some x) :
    ∃ n : Int, cs = [icell n] ∧ in64 n ∧ 20 ≤ 20 * Rows.uptoBulk x.1 := by
  obtain ⟨i1, q1, _, w1⟩ := DataW.trod_int Tryd.underlying3 h
  exact ⟨i1, q1, bounds_i64 w1, by have := bulk_one x.1; omega⟩
theorem flat_ints : ∀ l : List Int, l.flatMap (fun n => [icell n]) = intCells l
  | [] => rfl
  | a :: r => by rw [List.flatMap_cons, flat_ints r]; rfl
structure Tb.wf (T : Tb) : Prop where
  cols : ∀ C ∈ T.cols, in64 C.ty
  idx : ∀ X ∈ T.idx, in64 X.col
  head : in64 T.head
  roots : ∀ r ∈ T.roots, in64 r
def tbulk (T : Tb) : Nat := (2 * T.nm.length + 20) + ((T.cols.map fun C => 2 * C.nm.length + 80).sum + 20) + ((T.idx.map fun X => 2 * X.nm.length + 60).sum + 20) + 20 + ((T.roots.map fun _ => 20).sum + 20)
theorem sum_ge {α : Type} (f : α → Nat) (k : Nat) (h : ∀ x, k ≤ f x) : ∀ l : List α, k * l.length ≤ (l.map f).sum
  | [] => by simp
  | x :: l => by
    have h1 := sum_ge f k h l
    have h2 := h x
    simp only [List.map_cons, List.sum_cons, List.length_cons, Nat.mul_add]
    omega
theorem few_of {T : Tb} (h : tbulk T ≤ 21000000) : T.Few := by
  unfold tbulk at h
  have h1 := sum_ge (fun C : Cl => 2 * C.nm.length + 80) 80 (fun _ => by omega) T.cols
  have h2 := sum_ge (fun X : Ix => 2 * X.nm.length + 60) 60 (fun _ => by omega) T.idx
  have h3 := sum_ge (fun _ : Int => 20) 20 (fun _ => by omega) T.roots
  exact ⟨by omega, by omega, by omega⟩
theorem table_arg {H : Type} {enc : TypeId × Value → H} {W : World} {held : Bool} {base : Nat} {v : Value} {d : DataW H} {pl : List MemPlace} (hv : Value.okWide Tryd.prog W .any base 29 v) (h : DataW.Trod enc Tryd.prog W 0 (fun _ => true) held 29 v d pl) :
    ∃ (T : Tb) (p : Pl), v = .agg #[.string (strOf T.nm), .slice p.ca T.cols.length p.cc, .slice p.ia T.idx.length p.ic, .int .i64 T.head, .slice p.ra T.roots.length p.rc] ∧ TbAt W T p ∧ T.wf ∧ tbulk T ≤ 20 * Rows.uptoBulk d := by
  obtain ⟨cs, rfl, hcs⟩ := okWide_struct Tryd.underlying29 hv
  obtain ⟨fuel, hf0⟩ := h
  obtain ⟨xs, n', _, hx, hlen, hxl, hf⟩ := DataW.trod_struct Tryd.underlying29 hf0
  have c29 : Tryd.prog.cellsOf 29 = 5 := by kernel_rfl
  have c25 : Tryd.prog.cellsOf 25 = 1 := by kernel_rfl
  have c26 : Tryd.prog.cellsOf 26 = 1 := by kernel_rfl
  have c27 : Tryd.prog.cellsOf 27 = 1 := by kernel_rfl
  have c24 : Tryd.prog.cellsOf 24 = 4 := by kernel_rfl
  have c85 : Tryd.prog.cellsOf 85 = 3 := by kernel_rfl
  rw [c29] at hlen
  have hxl : xs.length = 5 := hxl
  obtain ⟨cl, hcl⟩ : ∃ cl, (Value.agg cs).cells.toList = cl := ⟨_, rfl⟩
  have hca : cs = cl.toArray := by rw [← hcl]; simp [Value.cells]
  rw [hcl] at hlen hf
  subst hca
  clear hcl
  match cl, hlen with
  | [v0, v1, v2, v3, v4], _ =>
    match xs, hxl with
    | [y0, y1, y2, y3, y4], _ =>
      have g0 := hf 0 _ rfl
      have g1 := hf 1 _ rfl
      have g2 := hf 2 _ rfl
      have g3 := hf 3 _ rfl
      have g4 := hf 4 _ rfl
      simp [Tryd.cells9] at g0
      simp [c25] at g1
      simp [c26] at g2
      simp [Tryd.cells3] at g3
      simp [c27] at g4
      obtain ⟨s, q0, e0, _⟩ := DataW.trod_string Tryd.underlying9 g0
      obtain ⟨i3, q3, _, w3⟩ := DataW.trod_int Tryd.underlying3 g3
      obtain ⟨lc, r1, o1, s1⟩ := structs_of clCells 4 (fun _ => rfl) (by omega) Cl.zero (fun C => 2 * C.nm.length + 80) (fun C => in64 C.ty) Tryd.underlying25 c24 cl_of g1
      obtain ⟨li, r2, o2, s2⟩ := structs_of ixCells 3 (fun _ => rfl) (by omega) Ix.zero (fun X => 2 * X.nm.length + 60) (fun X => in64 X.col) Tryd.underlying26 c85 ix_of g2
      obtain ⟨lr, r4, o4, s4⟩ := structs_of (fun n => [icell n]) 1 (fun _ => rfl) (by omega) 0 (fun _ => 20) in64 Tryd.underlying27 Tryd.cells3 int_of g4
      simp only [List.cons.injEq, and_true] at q0 q3
      subst q0 q3
      have r4' : Row W v4 lr.length (intCells lr) := by
        rw [← flat_ints]
        exact r4
      have r1' := r1
      have r2' := r2
      have r4'' := r4'
      obtain ⟨ca, cc, rfl, _⟩ := r1'
      obtain ⟨ia, ic, rfl, _⟩ := r2'
      obtain ⟨ra, rc, rfl, _⟩ := r4''
      refine ⟨⟨s.data.toList, lc, li, i3, lr⟩, ⟨ca, cc, ia, ic, ra, rc⟩, by simp [so], ⟨r1, r2, r4'⟩, ⟨o1, o2, bounds_i64 w3, o4⟩, ?_⟩
      have hx1 : d = _ := congrArg Prod.fst hx
      rw [hx1]
      have b0 : Rows.uptoBulk y0.1 = s.data.toList.length + 1 := by rw [e0]; rfl
      have b3 := bulk_one y3.1
      simp only [List.map_cons, List.map_nil, Rows.uptoBulk, Rows.uptoBulkAll, tbulk]
      omega
end Go.Proofs.YtplpchaceiogaaaDoor
