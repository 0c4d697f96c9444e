/- Values and bytes that came in. -/
import Derived.Test.YtigafjdacllohaaDoorVals
import Derived.ProofKit
import Derived.OpenShut
import Derived.ChangeSlices
import Derived.Deep.Grids
import Derived.Deep.Matrix
namespace Go.Proofs.YtigafjdacllohaaDoor
set_option maxRecDepth 100000
open Go.ChangeShapes Go.WideShapes Go.ChangeAt Go.RowKit
set_option linter.unusedVariables false
set_option linter.unusedSimpArgs false

theorem bcell_ofNat (n : Nat) (h : n < 256) : bcell (UInt8.ofNat n) = .int .u8 (n : Int) := by
  unfold bcell
  rw [UInt8.toNat_ofNat', Nat.mod_eq_of_lt (by omega)]
/-! ### Bulk -/
theorem bulk_one {H : Type} (d : DataW H) : 1 ≤ Rows.uptoBulk d := by
  cases d with
  | lit l => cases l <;> simp [Rows.uptoBulk]
  | nil => simp [Rows.uptoBulk]
  | ptr d => simp [Rows.uptoBulk]
  | slice elems spare => simp [Rows.uptoBulk]
  | agg parts => simp [Rows.uptoBulk]
  | iface t d => simp [Rows.uptoBulk]
  | map entries => simp [Rows.uptoBulk]
  | held h => simp [Rows.uptoBulk]
theorem bulk_part {H : Type} {d : DataW H} {l : List (DataW H)} (h : d ∈ l) : Rows.uptoBulk d ≤ Rows.uptoBulkAll l := by
  induction l with
  | nil => cases h
  | cons x r ih =>
    simp only [Rows.uptoBulkAll]
    cases List.mem_cons.1 h with
    | inl e => subst e; omega
    | inr e => have := ih e; omega
theorem bulk_len {H : Type} (l : List (DataW H)) : l.length ≤ Rows.uptoBulkAll l := by
  induction l with
  | nil => simp [Rows.uptoBulkAll]
  | cons x r ih => have := bulk_one x; simp only [Rows.uptoBulkAll, List.length_cons]; omega
theorem bulk_slice {H : Type} (elems spare : List (DataW H)) : elems.length + spare.length + 1 ≤ Rows.uptoBulk (.slice elems spare) := by
  have h1 := bulk_len elems
  have h2 := bulk_len spare
  simp only [Rows.uptoBulk]
  omega
theorem bulk_bound {H : Type} {l : List (DataW H)} (hk : Rows.uptoSmall H l = true) : Rows.uptoBulkAll l ≤ 1048576 := of_decide_eq_true hk

/-! ### Bytes -/
def bytesOfInts (zs : List Int) : List UInt8 := zs.map fun n => UInt8.ofNat n.toNat
theorem bytes_cell (zs : List Int) (hz : ∀ n ∈ zs, (Lit.int .u8 n).wf = true) (j : Nat) (u : Value) (hu : (secCells (bytesOfInts zs))[j]? = some u) : j < zs.length ∧ u = .int .u8 (zs.getD j 0) := by
  simp only [secCells, bytesOfInts, List.getElem?_map, Option.map_map] at hu
  cases hj : zs[j]? with
  | none => simp [hj] at hu
  | some n =>
    have hlt : j < zs.length := (List.getElem?_eq_some_iff.1 hj).1
    refine ⟨hlt, ?_⟩
    have hn : zs.getD j 0 = n := by simp [hj]
    rw [hn]
    have hw := hz n (List.mem_of_getElem? hj)
    have hw2 : (0 : Int) ≤ n ∧ n ≤ 255 := by
      have h : (decide (IntKind.u8.min ≤ n) && decide (n ≤ IntKind.u8.max)) = true := hw
      rw [Bool.and_eq_true, decide_eq_true_eq, decide_eq_true_eq] at h
      exact h
    simp [hj] at hu
    rw [← hu, bcell_ofNat _ (by omega)]
    congr 1
    omega
theorem Tryd.cells5 : Tryd.prog.cellsOf 5 = 1 := by kernel_rfl
theorem Tryd.cells3 : Tryd.prog.cellsOf 3 = 1 := by kernel_rfl
theorem spot_of {W : World} {b o j : Nat} {sp} {v : Value} (h : W.cell? ((⟨b, o, sp⟩ : Addr).add j) = some v) (hj : j = 0) : sp = none := by
  subst hj
  simpa [Addr.add] using World.cell?_spot h
theorem bytes_of {H : Type} {enc : TypeId × Value → H} {w : World} {held : Bool} {fuel : Nat} {v : Value} {x : DataW H × List MemPlace} (h : DataW.trod enc Tryd.prog w 0 (fun _ => true) held fuel 32 [v] = some x) :
    ∃ bs, Sl w v bs ∧ bs.length ≤ Rows.uptoBulk x.1 := by
  rcases ChangeShapes.open_ints Tryd.underlying32 Tryd.underlying5 Tryd.cells5 h with ⟨hcs, hx⟩ | ⟨y, l, c, zs, hcs, _, hl, hm, hz, hx, hcell, hwz⟩
  · simp at hcs
    subst hcs
    exact ⟨[], Row.nil w, Nat.zero_le _⟩
  · simp at hcs
    subst hcs
    simp at hz
    have hlen : (bytesOfInts (zs.take l)).length = l := by simp [bytesOfInts]; omega
    refine ⟨bytesOfInts (zs.take l), ⟨some y, c, by rw [hlen], by rw [hlen]; exact hl, hm, fun hne => ?_⟩, ?_⟩
    · obtain ⟨b, o, sp⟩ := y
      have h0 : 0 < l := by
        rcases Nat.eq_zero_or_pos l with h | h
        · subst h; exact absurd rfl hne
        · exact h
      have hsp : sp = none := spot_of (hcell 0 (by omega)) rfl
      subst hsp
      refine ⟨b, o, rfl, fun j u hu => ?_⟩
      obtain ⟨hj, rfl⟩ := bytes_cell _ (fun n hn => hwz n (List.mem_of_mem_take hn)) j u hu
      rw [List.length_take] at hj
      have := hcell j (by omega)
      rw [Addr.add_mid] at this
      rw [this]
      congr 2
      simp only [List.getD_eq_getElem?_getD, List.getElem?_take]
      rw [if_pos (by omega)]
    · rw [hlen]
      have hx1 : x.1 = _ := congrArg Prod.fst hx
      rw [hx1]
      refine Nat.le_trans ?_ (Nat.le_of_succ_le (bulk_slice _ _))
      simp [lits]
      omega


/-! ### Values -/
theorem val_of {H : Type} {enc : TypeId × Value → H} {W : World} {held : Bool} {fuel : Nat} {cs : List Value} {x : DataW H × List MemPlace} (h : DataW.trod enc Tryd.prog W 0 (fun _ => true) held fuel 23 cs = some x) :
    ∃ V : Vl, cs = vcells V ∧ V.wf ∧ 2 * V.t.length + 20 ≤ 4 * Rows.uptoBulk x.1 := by
  obtain ⟨xs, n', _, hx, hlen, hxl, hf⟩ := DataW.trod_struct Tryd.underlying23 h
  have c23 : Tryd.prog.cellsOf 23 = 4 := by kernel_rfl
  have c9 : Tryd.prog.cellsOf 9 = 1 := by kernel_rfl
  have c4 : Tryd.prog.cellsOf 4 = 1 := by kernel_rfl
  rw [c23] at hlen
  have hxl : xs.length = 4 := hxl
  match cs, hlen with
  | [v0, v1, v2, v3], _ =>
    match xs, hxl with
    | [y0, y1, y2, y3], _ =>
      have g0 := hf 0 _ rfl
      have g1 := hf 1 _ rfl
      have g2 := hf 2 _ rfl
      have g3 := hf 3 _ rfl
      simp [Tryd.cells3] at g0 g1
      simp [c9] at g2
      simp [c4] at g3
      obtain ⟨i0, q0, _, w0⟩ := DataW.trod_int Tryd.underlying3 g0
      obtain ⟨i1, q1, _, w1⟩ := DataW.trod_int Tryd.underlying3 g1
      obtain ⟨s, q2, e2, _⟩ := DataW.trod_string Tryd.underlying9 g2
      obtain ⟨b, q3, e3⟩ := DataW.trod_bool Tryd.underlying4 g3
      simp only [List.cons.injEq, and_true] at q0 q1 q2 q3
      subst q0 q1 q2 q3
      refine ⟨⟨i0, i1, s.data.toList, b⟩, ?_, ⟨bounds_i64 w0, bounds_i64 w1⟩, ?_⟩
      · have : strOf s.data.toList = s := by cases s; rfl
        simp [vcells, this]
      · have hx1 : x.1 = _ := congrArg Prod.fst hx
        rw [hx1]
        have b0 := bulk_one y0.1
        have b1 := bulk_one y1.1
        have b3 := bulk_one y3.1
        have b2 : Rows.uptoBulk y2.1 = s.data.toList.length + 1 := by rw [e2]; rfl
        simp only [List.map_cons, List.map_nil, Rows.uptoBulk, Rows.uptoBulkAll]
        omega
theorem val_arg {H : Type} {enc : TypeId × Value → H} {W : World} {held : Bool} {base : Nat} {v : Value} {d : DataW H} {p : List MemPlace} (hv : Value.okWide Tryd.prog W .any base 23 v) (h : DataW.Trod enc Tryd.prog W 0 (fun _ => true) held 23 v d p) :
    ∃ V : Vl, v = valOf V ∧ V.wf ∧ 2 * V.t.length + 20 ≤ 4 * Rows.uptoBulk d := by
  obtain ⟨cs, rfl, hcs⟩ := okWide_struct Tryd.underlying23 hv
  obtain ⟨fuel, hf⟩ := h
  obtain ⟨V, h1, h2, h3⟩ := val_of hf
  refine ⟨V, ?_, h2, h3⟩
  simp only [Value.cells] at h1
  have : cs = (vcells V).toArray := by rw [← h1]
  rw [this]
  rfl
theorem bulkAll_snoc {H : Type} (l : List (DataW H)) (d : DataW H) : Rows.uptoBulkAll (l ++ [d]) = Rows.uptoBulkAll l + Rows.uptoBulk d := by
  induction l with
  | nil => simp [Rows.uptoBulkAll]
  | cons x r ih => simp only [List.cons_append, Rows.uptoBulkAll, ih]; omega
theorem bulk_snoc (l : List Vl) (V : Vl) : bulk (l ++ [V]) = bulk l + (2 * V.t.length + 20) := by
  simp [bulk, List.map_append, List.sum_append]
theorem choose_list {H : Type} {p : Nat → Vl → Prop} (D : Nat → DataW H) : ∀ (n : Nat), (∀ k, k < n → ∃ R, p k R ∧ 2 * R.t.length + 20 ≤ 4 * Rows.uptoBulk (D k)) → ∃ l : List Vl, l.length = n ∧ (∀ k, k < n → p k (l.getD k Vl.zero)) ∧ bulk l ≤ 4 * Rows.uptoBulkAll ((List.range n).map D)
  | 0, _ => ⟨[], rfl, fun k hk => absurd hk (Nat.not_lt_zero _), by simp [bulk]⟩
  | n + 1, h => by
    obtain ⟨Rs, hl, hp, hb⟩ := choose_list D n (fun k hk => h k (by omega))
    obtain ⟨R, hR, hRb⟩ := h n (by omega)
    refine ⟨Rs ++ [R], by simp [hl], fun k hk => ?_, ?_⟩
    · by_cases e : k < n
      · have := hp k e
        simp only [List.getD_eq_getElem?_getD] at this ⊢
        rwa [List.getElem?_append_left (by omega)]
      · have e : k = n := by omega
        subst e
        simp only [List.getD_eq_getElem?_getD]
        rw [List.getElem?_append_right (by omega), hl]
        simpa using hR
    · rw [bulk_snoc, List.range_succ, List.map_append]
      simp only [List.map_cons, List.map_nil]
      rw [bulkAll_snoc]
      omega
theorem vals_of {H : Type} {enc : TypeId × Value → H} {W : World} {held : Bool} {fuel : Nat} {v : Value} {x : DataW H × List MemPlace}
    (h : DataW.trod enc Tryd.prog W 0 (fun _ => true) held fuel 38 [v] = some x) :
    ∃ l, VsAt W v l ∧ (∀ V ∈ l, V.wf) ∧ bulk l ≤ 4 * Rows.uptoBulk x.1 := by
  rcases Deep.open_slice Tryd.underlying38 h with ⟨hcs, _⟩ | ⟨a', len', cap', m, n, D, Pl, hcs, hb, hl, hm, hmm, hxx, hx⟩
  · simp at hcs
    subst hcs
    exact ⟨[], Row.nil W, by simp, by simp [bulk]⟩
  · simp at hcs
    subst hcs
    simp only [if_true] at hmm
    subst hmm
    have c23 : Tryd.prog.cellsOf 23 = 4 := by kernel_rfl
    obtain ⟨Rs, hRl, hR, hRb⟩ := choose_list (p := fun k R => (∀ j u, (vcells R)[j]? = some u → W.cell? ((a'.add (k * 4)).add j) = some u) ∧ R.wf) D len' (fun k hk => by
      obtain ⟨cs, hc, ht⟩ := hx k (by omega)
      rw [c23] at hc
      obtain ⟨_, hlen, hcell⟩ := World.cells?_some hc
      obtain ⟨R, rfl, h2, h3⟩ := val_of ht
      refine ⟨R, ⟨fun j u hu => ?_, h2⟩, h3⟩
      have hj := (List.getElem?_eq_some_iff.1 hu).1
      have := hcell j (by omega)
      rw [this]
      exact hu)
    have hxb : bulk Rs ≤ 4 * Rows.uptoBulk x.1 := by
      have hx1 : x.1 = _ := congrArg Prod.fst hxx
      rw [hx1]
      simp only [Rows.uptoBulk]
      omega
    obtain ⟨b, o, sp⟩ := a'
    refine ⟨Rs, ⟨_, _, by rw [hRl], by rw [hRl]; exact hl, hm, fun hne => ?_⟩, fun V hV => ?_, hxb⟩
    · have h0 : 0 < len' := by
        rcases Nat.eq_zero_or_pos len' with h | h
        · have : Rs = [] := List.eq_nil_of_length_eq_zero (by omega)
          rw [this] at hne
          exact absurd rfl hne
        · exact h
      have hsp : sp = none := by
        have := (hR 0 h0).1 0 _ rfl
        exact spot_of (j := 0) (by simpa [Addr.add] using this) rfl
      subst hsp
      refine ⟨b, o, rfl, fun j u hu => ?_⟩
      have hjl := (List.getElem?_eq_some_iff.1 hu).1
      rw [length_vsCells] at hjl
      have hk : j / 4 < len' := by omega
      have h1 := (hR (j / 4) hk).1
      obtain ⟨t0, t1, t2, t3⟩ := vsCells_get Rs (j / 4) (by omega)
      rcases (by omega : j % 4 = 0 ∨ j % 4 = 1 ∨ j % 4 = 2 ∨ j % 4 = 3) with hr | hr | hr | hr
      · have hj : j = j / 4 * 4 := by omega
        rw [hj, t0] at hu
        have := h1 0 _ rfl
        rw [Addr.add_mid, Addr.add_mid] at this
        rw [hj, ← Option.some.inj hu]
        exact this
      · have hj : j = j / 4 * 4 + 1 := by omega
        rw [hj, t1] at hu
        have := h1 1 _ rfl
        rw [Addr.add_mid, Addr.add_mid] at this
        rw [hj, ← Option.some.inj hu, ← Nat.add_assoc]
        exact this
      · have hj : j = j / 4 * 4 + 2 := by omega
        rw [hj, t2] at hu
        have := h1 2 _ rfl
        rw [Addr.add_mid, Addr.add_mid] at this
        rw [hj, ← Option.some.inj hu, ← Nat.add_assoc]
        exact this
      · have hj : j = j / 4 * 4 + 3 := by omega
        rw [hj, t3] at hu
        have := h1 3 _ rfl
        rw [Addr.add_mid, Addr.add_mid] at this
        rw [hj, ← Option.some.inj hu, ← Nat.add_assoc]
        exact this
    · obtain ⟨k, hk, rfl⟩ := List.mem_iff_getElem.1 hV
      have := (hR k (by omega)).2
      simpa [hk] using this
theorem vals_arg {H : Type} {enc : TypeId × Value → H} {W : World} {held : Bool} {base : Nat} {v : Value} {d : DataW H} {p : List MemPlace} (hv : Value.okWide Tryd.prog W .any base 38 v) (h : DataW.Trod enc Tryd.prog W 0 (fun _ => true) held 38 v d p) :
    ∃ l, VsAt W v l ∧ (∀ V ∈ l, V.wf) ∧ bulk l ≤ 4 * Rows.uptoBulk d := by
  obtain ⟨a, len, cap, rfl⟩ := okWide_slice Tryd.underlying38 hv
  obtain ⟨fuel, hf⟩ := h
  exact vals_of hf
theorem bytes_arg {H : Type} {enc : TypeId × Value → H} {W : World} {held : Bool} {base : Nat} {v : Value} {d : DataW H} {p : List MemPlace} (hv : Value.okWide Tryd.prog W .any base 32 v) (h : DataW.Trod enc Tryd.prog W 0 (fun _ => true) held 32 v d p) :
    ∃ bs, Sl W v bs ∧ bs.length ≤ Rows.uptoBulk d := by
  obtain ⟨a, len, cap, rfl⟩ := okWide_slice Tryd.underlying32 hv
  obtain ⟨fuel, hf⟩ := h
  exact bytes_of hf
end Go.Proofs.YtigafjdacllohaaDoor
