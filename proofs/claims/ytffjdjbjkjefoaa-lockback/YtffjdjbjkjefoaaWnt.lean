/- A slice of wants that came in. -/
import Derived.Test.YtffjdjbjkjefoaaTab
import Derived.ProofKit
import Derived.OpenShut
import Derived.ShutString
import Derived.ChangeOld
import Derived.Below
import Derived.Deep.Grids
import Derived.SizedLaws
namespace Go.Proofs.Ytffjdjbjkjefoaa
open Go.ChangeShapes Go.WideShapes Go.ChangeAt Go.RowKit
set_option linter.unusedVariables false
set_option linter.unusedSimpArgs false

/-- Nothing of it takes more than a machine has. -/
def Small {H : Type} (t : TypeId) (d : DataW H) : Prop := ∀ n ∈ d.weights Try.prog t, n ≤ reachBytes
theorem weights_all {H : Type} {e : TypeId} : ∀ {l : List (DataW H)} {d : DataW H}, d ∈ l → ∀ n ∈ d.weights Try.prog e, n ∈ DataW.weightsAll Try.prog e l
  | x :: r, d, h, n, hn => by
    simp only [DataW.weightsAll, List.mem_append]
    rcases List.mem_cons.1 h with rfl | h
    · exact .inl hn
    · exact .inr (weights_all h n hn)
theorem small_slice {H : Type} {t e : TypeId} {elems spare : List (DataW H)} (hu : Try.prog.underlying t = some (.slice e)) (h : Small t (.slice elems spare)) : (elems.length + spare.length) * Try.prog.bytesOf e ≤ reachBytes ∧ ∀ d ∈ elems, Small e d := by
  refine ⟨h _ (by simp [DataW.weights, hu]), fun d hd n hn => h n ?_⟩
  simp only [DataW.weights, hu, List.mem_cons, List.mem_append]
  exact .inr (.inl (weights_all hd n hn))
theorem small_arg {H : Type} {ts : List TypeId} {ds : List (DataW H)} (h : (DataW.weightsEach Try.prog ts ds).all (· ≤ reachBytes) = true) {j : Nat} {t : TypeId} {d : DataW H} (ht : ts[j]? = some t) (hd : ds[j]? = some d) : Small t d := fun n hn => by
  have := List.all_eq_true.1 h n (DataW.weights_mem_each ht hd n hn)
  simpa using this
set_option maxRecDepth 100000 in
theorem wants_of {H : Type} {enc : TypeId × Value → H} {W : World} {fuel : Nat} {a : Option Addr} {len cap : Nat} {x : DataW H × List MemPlace} (hsm : Small 22 x.1)
    (h : DataW.trod enc Try.prog W 0 (fun _ => true) true fuel 22 (Value.slice a len cap).cells.toList = some x) : ∃ l, l.length = len ∧ WantsAt W a l ∧ len ≤ 5864062014805 := by
  rcases Deep.open_slice Try.underlying22 h with ⟨hcs, _⟩ | ⟨a', len', cap', m, n, D, Pl, hcs, hb, hl, hm, hmm, hxx, hx⟩
  · simp [Value.cells] at hcs
    obtain ⟨rfl, rfl, rfl⟩ := hcs
    exact ⟨[], rfl, ⟨by simp, fun i x hx => by simp at hx⟩, by omega⟩
  · simp [Value.cells] at hcs
    obtain ⟨rfl, rfl, rfl⟩ := hcs
    simp only [if_true] at hmm
    subst hmm
    have hx1 : x.1 = _ := congrArg Prod.fst hxx
    rw [hx1] at hsm
    obtain ⟨hs1, hs2⟩ := small_slice Try.underlying22 hsm
    rw [show Try.prog.bytesOf 31 = 24 by kernel_rfl] at hs1
    simp only [List.length_map, List.length_range] at hs1
    have hrb := reachBytes_lt
    have hlen24 : len ≤ 5864062014805 := by omega
    have h6 : Try.prog.cellsOf 31 = 2 := by kernel_rfl
    have h3 : Try.prog.cellsOf 3 = 1 := by kernel_rfl
    have h9 : Try.prog.cellsOf 9 = 1 := by kernel_rfl
    obtain ⟨b, o, sp⟩ := a'
    have hsp0 : 0 < len → sp = none := fun h0 => by
      obtain ⟨cs0, hc0, _⟩ := hx 0 (by omega)
      rw [h6] at hc0
      obtain ⟨_, hl0, hcl⟩ := World.cells?_some hc0
      have h00 := (hcl 0 (by omega)).trans (List.getElem?_eq_getElem (by omega))
      simpa [Addr.add] using World.cell?_spot h00
    have each : ∀ k, ∃ y : List UInt8 × Int, k < len → NameOk y.1 ∧ In64 y.2 ∧ sp = none ∧ b < W.heap.size ∧ ∀ j v, [scell y.1, Value.int .i64 y.2][j]? = some v → W.cell? ⟨b, o + k * 2 + j, none⟩ = some v := fun k => by
      by_cases hk : k < len
      · obtain ⟨cs, hc, ht⟩ := hx k (by omega)
        have hsd := hs2 (D k) (List.mem_map.2 ⟨k, List.mem_range.2 hk, rfl⟩)
        rw [h6] at hc
        obtain ⟨_, hln, hcell⟩ := World.cells?_some hc
        obtain ⟨xs, n', _, hxs, _, hxl, hf⟩ := DataW.trod_struct Try.underlying31 ht
        match cs, hln with
        | [v0, v1], _ =>
          have g0 := hf 0 _ rfl
          have g1 := hf 1 _ rfl
          have hs : ∀ i, i < 2 → ∃ y, xs[i]? = some y := fun i hi => ⟨_, List.getElem?_eq_getElem (by rw [hxl]; exact hi)⟩
          obtain ⟨y0, e0⟩ := hs 0 (by omega)
          obtain ⟨y1, e1⟩ := hs 1 (by omega)
          rw [e0] at g0
          rw [e1] at g1
          simp [h9] at g0
          simp [h3] at g1
          obtain ⟨s, q0, z0, w0⟩ := DataW.trod_string Try.underlying9 g0
          obtain ⟨i1, q1, _, w1⟩ := DataW.trod_int Try.underlying3 g1
          simp only [List.cons.injEq, and_true] at q0 q1
          subst q0 q1
          have hd1 : D k = _ := congrArg Prod.fst hxs
          have hnm : s.data.toList.length ≤ reachBytes := by
            have hm0 : s.data.toList.length ∈ (D k).weights Try.prog 31 := by
              rw [hd1]
              simp only [DataW.weights, Try.underlying31]
              refine DataW.weights_mem_each (j := 0) (t := 9) (d := y0.1) rfl ?_ _ (by rw [z0]; simp [DataW.weights])
              rw [List.getElem?_map, e0]
              rfl
            exact hsd _ hm0
          have hc0 := hcell 0 (by omega)
          have hsp := hsp0 (by omega)
          subst hsp
          refine ⟨(s.data.toList, i1), fun _ => ⟨Nat.le_trans hnm (by omega), in64 w1, rfl, ?_, fun j v hv => ?_⟩⟩
          · have := hc0
            rw [Addr.add_mid, Addr.add_mid] at this
            exact World.block_lt_of_cell? W _ this
          · have hj : j < 2 := by
              have := (List.getElem?_eq_some_iff.1 hv).1
              simpa using this
            have h1 := hcell j hj
            rw [Addr.add_mid, Addr.add_mid] at h1
            have hso : scell s.data.toList = .string s := by
              show Value.string (strOf s.data.toList) = _
              congr 1
            rw [hso] at hv
            exact h1.trans hv
      · exact ⟨([], 0), fun h => absurd h hk⟩
    refine ⟨(List.range len).map fun k => Classical.choose (each k), by simp, ⟨by simp; omega, fun i x hx => ?_⟩, hlen24⟩
    have hi : i < len := by
      have := (List.getElem?_eq_some_iff.1 hx).1
      simpa using this
    rw [List.getElem?_map, List.getElem?_range hi] at hx
    injection hx with hx
    subst hx
    obtain ⟨p1, p2, p3, p4, p5⟩ := Classical.choose_spec (each i) hi
    subst p3
    exact ⟨p1, p2, b, o, rfl, p4, p5⟩
end Go.Proofs.Ytffjdjbjkjefoaa
