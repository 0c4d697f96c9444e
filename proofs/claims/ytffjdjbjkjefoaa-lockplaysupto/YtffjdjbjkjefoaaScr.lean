/- A script of calls that came in. -/
import Derived.Test.YtffjdjbjkjefoaaTab
import Derived.ProofKit
import Derived.OpenShut
import Derived.ShutString
import Derived.ChangeOld
import Derived.Below
import Derived.Deep.Grids
namespace Go.Proofs.Ytffjdjbjkjefoaa
open Go.ChangeShapes Go.WideShapes Go.ChangeAt Go.RowKit
set_option linter.unusedVariables false
set_option linter.unusedSimpArgs false

theorem bulk_one {H : Type} (d : DataW H) : 1 ≤ Rows.uptoBulk d := by
  cases d with
  | lit l => cases l <;> simp [Rows.uptoBulk]
  | nil => simp [Rows.uptoBulk]
  | ptr d => simp [Rows.uptoBulk]
  | slice elems spare => simp [Rows.uptoBulk]
  | agg parts => simp [Rows.uptoBulk]
  | iface t d => simp [Rows.uptoBulk]
  | map entries => simp [Rows.uptoBulk]
  | held h => simp [Rows.uptoBulk]
theorem bulk_part {H : Type} {d : DataW H} {l : List (DataW H)} (h : d ∈ l) : Rows.uptoBulk d ≤ Rows.uptoBulkAll l := by
  induction l with
  | nil => cases h
  | cons x r ih =>
    simp only [Rows.uptoBulkAll]
    cases List.mem_cons.1 h with
    | inl e => subst e; omega
    | inr e => have := ih e; omega
theorem bulk_len {H : Type} (l : List (DataW H)) : l.length ≤ Rows.uptoBulkAll l := by
  induction l with
  | nil => simp [Rows.uptoBulkAll]
  | cons x r ih => have := bulk_one x; simp only [Rows.uptoBulkAll, List.length_cons]; omega
theorem bulk_bound {H : Type} {l : List (DataW H)} (hk : Rows.uptoSmall H l = true) : Rows.uptoBulkAll l ≤ 1048576 := of_decide_eq_true hk
theorem bulk_agg {H : Type} (l : List (DataW H)) : Rows.uptoBulkAll l ≤ Rows.uptoBulk (.agg l) := by
  simp only [Rows.uptoBulk]
  omega
theorem bulk_elem {H : Type} {d : DataW H} {e s : List (DataW H)} (h : d ∈ e) : Rows.uptoBulk d ≤ Rows.uptoBulk (.slice e s) := by
  have h1 := bulk_part h
  simp only [Rows.uptoBulk]
  omega
theorem bulk_rows {H : Type} (e s : List (DataW H)) : e.length ≤ Rows.uptoBulk (.slice e s) := by
  have h1 := bulk_len e
  simp only [Rows.uptoBulk]
  omega
set_option maxRecDepth 100000 in
theorem wantsB_of {H : Type} {enc : TypeId × Value → H} {W : World} {fuel : Nat} {v : Value} {x : DataW H × List MemPlace} (hsm : Rows.uptoBulk x.1 ≤ 1048576)
    (h : DataW.trod enc Try.prog W 0 (fun _ => true) true fuel 22 [v] = some x) : ∃ a c l, v = .slice a (l : List (List UInt8 × Int)).length c ∧ WantsAt W a l ∧ l.length ≤ 1048576 := by
  rcases Deep.open_slice Try.underlying22 h with ⟨hcs, _⟩ | ⟨a', len, cap', m, n, D, Pl, hcs, hb, hl, hm, hmm, hxx, hx⟩
  · simp at hcs
    subst hcs
    exact ⟨none, 0, [], rfl, ⟨by simp, fun i x hx => by simp at hx⟩, by simp⟩
  · simp at hcs
    subst hcs
    simp only [if_true] at hmm
    subst hmm
    have hx1 : x.1 = _ := congrArg Prod.fst hxx
    rw [hx1] at hsm
    dsimp only at hsm
    have hs1 := bulk_rows ((List.range len).map D) ((List.range (m - len)).map fun j => D (len + j))
    have hs2 : ∀ d ∈ (List.range len).map D, Rows.uptoBulk d ≤ 1048576 := fun d hd => Nat.le_trans (bulk_elem hd) hsm
    simp only [List.length_map, List.length_range] at hs1
    have hlen24 : len ≤ 1048576 := by omega
    have h6 : Try.prog.cellsOf 31 = 2 := by kernel_rfl
    have h3 : Try.prog.cellsOf 3 = 1 := by kernel_rfl
    have h9 : Try.prog.cellsOf 9 = 1 := by kernel_rfl
    obtain ⟨b, o, sp⟩ := a'
    have hsp0 : 0 < len → sp = none := fun h0 => by
      obtain ⟨cs0, hc0, _⟩ := hx 0 (by omega)
      rw [h6] at hc0
      obtain ⟨_, hl0, hcl⟩ := World.cells?_some hc0
      have h00 := (hcl 0 (by omega)).trans (List.getElem?_eq_getElem (by omega))
      simpa [Addr.add] using World.cell?_spot h00
    have each : ∀ k, ∃ y : List UInt8 × Int, k < len → NameOk y.1 ∧ In64 y.2 ∧ sp = none ∧ b < W.heap.size ∧ ∀ j v, [scell y.1, Value.int .i64 y.2][j]? = some v → W.cell? ⟨b, o + k * 2 + j, none⟩ = some v := fun k => by
      by_cases hk : k < len
      · obtain ⟨cs, hc, ht⟩ := hx k (by omega)
        have hsd := hs2 (D k) (List.mem_map.2 ⟨k, List.mem_range.2 hk, rfl⟩)
        rw [h6] at hc
        obtain ⟨_, hln, hcell⟩ := World.cells?_some hc
        obtain ⟨xs, n', _, hxs, _, hxl, hf⟩ := DataW.trod_struct Try.underlying31 ht
        match cs, hln with
        | [v0, v1], _ =>
          have g0 := hf 0 _ rfl
          have g1 := hf 1 _ rfl
          have hs : ∀ i, i < 2 → ∃ y, xs[i]? = some y := fun i hi => ⟨_, List.getElem?_eq_getElem (by rw [hxl]; exact hi)⟩
          obtain ⟨y0, e0⟩ := hs 0 (by omega)
          obtain ⟨y1, e1⟩ := hs 1 (by omega)
          rw [e0] at g0
          rw [e1] at g1
          simp [h9] at g0
          simp [h3] at g1
          obtain ⟨s, q0, z0, w0⟩ := DataW.trod_string Try.underlying9 g0
          obtain ⟨i1, q1, _, w1⟩ := DataW.trod_int Try.underlying3 g1
          simp only [List.cons.injEq, and_true] at q0 q1
          subst q0 q1
          have hd1 : D k = _ := congrArg Prod.fst hxs
          have hnm : s.data.toList.length ≤ 1048576 := by
            rw [hd1] at hsd
            have hy : y0.1 ∈ xs.map (·.1) := List.mem_map.2 ⟨y0, List.mem_of_getElem? e0, rfl⟩
            have h1 := Nat.le_trans (bulk_part hy) (Nat.le_trans (bulk_agg _) hsd)
            rw [z0] at h1
            simp only [Rows.uptoBulk] at h1
            omega
          have hc0 := hcell 0 (by omega)
          have hsp := hsp0 (by omega)
          subst hsp
          refine ⟨(s.data.toList, i1), fun _ => ⟨Nat.le_trans hnm (by omega), in64 w1, rfl, ?_, fun j v hv => ?_⟩⟩
          · have := hc0
            rw [Addr.add_mid, Addr.add_mid] at this
            exact World.block_lt_of_cell? W _ this
          · have hj : j < 2 := by
              have := (List.getElem?_eq_some_iff.1 hv).1
              simpa using this
            have h1 := hcell j hj
            rw [Addr.add_mid, Addr.add_mid] at h1
            have hso : scell s.data.toList = .string s := by
              show Value.string (strOf s.data.toList) = _
              congr 1
            rw [hso] at hv
            exact h1.trans hv
      · exact ⟨([], 0), fun h => absurd h hk⟩
    have hll : ((List.range len).map fun k => Classical.choose (each k)).length = len := by simp
    refine ⟨_, _, (List.range len).map fun k => Classical.choose (each k), by rw [hll], ⟨by rw [hll]; omega, fun i x hx => ?_⟩, by rw [hll]; exact hlen24⟩
    have hi : i < len := by
      have := (List.getElem?_eq_some_iff.1 hx).1
      simpa using this
    rw [List.getElem?_map, List.getElem?_range hi] at hx
    injection hx with hx
    subst hx
    obtain ⟨p1, p2, p3, p4, p5⟩ := Classical.choose_spec (each i) hi
    subst p3
    exact ⟨p1, p2, b, o, rfl, p4, p5⟩
/-- A script that may be read. -/
def OpsAt (w : World) (a : Option Addr) (n : Nat) : Prop := n ≤ 1048576 ∧ ∀ k, k < n → ∃ b o kd id aa c l, a = some ⟨b, o, none⟩ ∧ In64 id ∧ w.cell? ⟨b, o + k * 3, none⟩ = some (.int .i64 kd) ∧ w.cell? ⟨b, o + k * 3 + 1, none⟩ = some (.int .i64 id) ∧ w.cell? ⟨b, o + k * 3 + 2, none⟩ = some (.slice aa (l : List (List UInt8 × Int)).length c) ∧ WantsAt w aa l ∧ l.length ≤ 1048576
set_option maxRecDepth 100000 in
theorem ops_of {H : Type} {enc : TypeId × Value → H} {W : World} {fuel : Nat} {a : Option Addr} {len cap : Nat} {x : DataW H × List MemPlace} (hsm : Rows.uptoBulk x.1 ≤ 1048576)
    (h : DataW.trod enc Try.prog W 0 (fun _ => true) true fuel 37 (Value.slice a len cap).cells.toList = some x) : OpsAt W a len := by
  rcases Deep.open_slice Try.underlying37 h with ⟨hcs, _⟩ | ⟨a', len', cap', m, n, D, Pl, hcs, hb, hl, hm, hmm, hxx, hx⟩
  · simp [Value.cells] at hcs
    obtain ⟨rfl, rfl, rfl⟩ := hcs
    exact ⟨by omega, fun k hk => by omega⟩
  · simp [Value.cells] at hcs
    obtain ⟨rfl, rfl, rfl⟩ := hcs
    simp only [if_true] at hmm
    subst hmm
    have hx1 : x.1 = _ := congrArg Prod.fst hxx
    rw [hx1] at hsm
    dsimp only at hsm
    have hs1 := bulk_rows ((List.range len).map D) ((List.range (m - len)).map fun j => D (len + j))
    have hs2 : ∀ d ∈ (List.range len).map D, Rows.uptoBulk d ≤ 1048576 := fun d hd => Nat.le_trans (bulk_elem hd) hsm
    simp only [List.length_map, List.length_range] at hs1
    refine ⟨by omega, fun k hk => ?_⟩
    have h6 : Try.prog.cellsOf 43 = 3 := by kernel_rfl
    have h3 : Try.prog.cellsOf 3 = 1 := by kernel_rfl
    have h22 : Try.prog.cellsOf 22 = 1 := by kernel_rfl
    have hsd := hs2 (D k) (List.mem_map.2 ⟨k, List.mem_range.2 hk, rfl⟩)
    obtain ⟨cs, hc, ht⟩ := hx k (by omega)
    rw [h6] at hc
    obtain ⟨_, hlen, hcell⟩ := World.cells?_some hc
    obtain ⟨xs, n', _, hxs, _, hxl, hf⟩ := DataW.trod_struct Try.underlying43 ht
    match cs, hlen with
    | [v0, v1, v2], _ =>
      have g0 := hf 0 _ rfl
      have g1 := hf 1 _ rfl
      have g2 := hf 2 _ rfl
      have hs : ∀ i, i < 3 → ∃ y, xs[i]? = some y := fun i hi => ⟨_, List.getElem?_eq_getElem (by rw [hxl]; exact hi)⟩
      obtain ⟨y0, e0⟩ := hs 0 (by omega)
      obtain ⟨y1, e1⟩ := hs 1 (by omega)
      obtain ⟨y2, e2⟩ := hs 2 (by omega)
      rw [e0] at g0
      rw [e1] at g1
      rw [e2] at g2
      simp [h3] at g0 g1
      simp [h22] at g2
      obtain ⟨i0, q0, _, w0⟩ := DataW.trod_int Try.underlying3 g0
      obtain ⟨i1, q1, _, w1⟩ := DataW.trod_int Try.underlying3 g1
      have hd1 : D k = _ := congrArg Prod.fst hxs
      rw [hd1] at hsd
      have hy : y2.1 ∈ xs.map (·.1) := List.mem_map.2 ⟨y2, List.mem_of_getElem? e2, rfl⟩
      obtain ⟨aa, c, l, rfl, hw, hwl⟩ := wantsB_of (Nat.le_trans (bulk_part hy) (Nat.le_trans (bulk_agg _) hsd)) g2
      obtain ⟨b, o, sp⟩ := a'
      have hsp : sp = none := by
        obtain ⟨cs0, hc0, _⟩ := hx 0 (by omega)
        rw [h6] at hc0
        obtain ⟨_, hl0, hcl⟩ := World.cells?_some hc0
        have h00 := (hcl 0 (by omega)).trans (List.getElem?_eq_getElem (by omega))
        simpa [Addr.add] using World.cell?_spot h00
      subst hsp
      simp only [List.cons.injEq, and_true] at q0 q1
      subst q0 q1
      have c0 := hcell 0 (by omega)
      have c1 := hcell 1 (by omega)
      have c2 := hcell 2 (by omega)
      rw [Addr.add_mid, Addr.add_mid] at c0 c1 c2
      exact ⟨b, o, i0, i1, aa, c, l, rfl, in64 w1, c0, c1, c2, hw, hwl⟩
end Go.Proofs.Ytffjdjbjkjefoaa
