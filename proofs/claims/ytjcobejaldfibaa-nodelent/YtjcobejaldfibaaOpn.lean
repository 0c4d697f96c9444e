/- Nodes and bytes that came in. -/
import Derived.Test.YtjcobejaldfibaaNod
import Derived.ProofKit
import Derived.OpenShut
import Derived.ChangeSlices
import Derived.Deep.Grids
import Derived.Deep.Matrix
import Derived.SizedLaws
namespace Go.Proofs.Ytjcobejaldfibaa
open Go.ChangeShapes Go.WideShapes Go.ChangeAt Go.RowKit
set_option linter.unusedVariables false
set_option linter.unusedSimpArgs false

theorem bcell_ofNat (n : Nat) (h : n < 256) : bcell (UInt8.ofNat n) = .int .u8 (n : Int) := by
  unfold bcell
  rw [UInt8.toNat_ofNat', Nat.mod_eq_of_lt (by omega)]
def bytesOfInts (zs : List Int) : List UInt8 := zs.map fun n => UInt8.ofNat n.toNat
theorem bytes_cell (zs : List Int) (hz : ∀ n ∈ zs, (Lit.int .u8 n).wf = true) (j : Nat) (u : Value) (hu : (secCells (bytesOfInts zs))[j]? = some u) : j < zs.length ∧ u = .int .u8 (zs.getD j 0) := by
  simp only [secCells, bytesOfInts, List.getElem?_map, Option.map_map] at hu
  cases hj : zs[j]? with
  | none => simp [hj] at hu
  | some n =>
    have hlt : j < zs.length := (List.getElem?_eq_some_iff.1 hj).1
    refine ⟨hlt, ?_⟩
    have hn : zs.getD j 0 = n := by simp [hj]
    rw [hn]
    have hw := hz n (List.mem_of_getElem? hj)
    have hw2 : (0 : Int) ≤ n ∧ n ≤ 255 := by
      have h : (decide (IntKind.u8.min ≤ n) && decide (n ≤ IntKind.u8.max)) = true := hw
      rw [Bool.and_eq_true, decide_eq_true_eq, decide_eq_true_eq] at h
      exact h
    simp [hj] at hu
    rw [← hu, bcell_ofNat _ (by omega)]
    congr 1
    omega
theorem Try.cells5 : Try.prog.cellsOf 5 = 1 := by kernel_rfl
theorem Try.cells3 : Try.prog.cellsOf 3 = 1 := by kernel_rfl
theorem Try.cells28 : Try.prog.cellsOf 28 = 1 := by kernel_rfl
theorem Try.cells22 : Try.prog.cellsOf 22 = 1 := by kernel_rfl
theorem Try.cells24 : Try.prog.cellsOf 24 = 1 := by kernel_rfl
theorem Try.cells4 : Try.prog.cellsOf 4 = 1 := by kernel_rfl
theorem spot_of {W : World} {b o j : Nat} {sp} {v : Value} (h : W.cell? ((⟨b, o, sp⟩ : Addr).add j) = some v) (hj : j = 0) : sp = none := by
  subst hj
  simpa [Addr.add] using World.cell?_spot h
/-- Nothing of it takes more than a machine has. -/
def Small {H : Type} (t : TypeId) (d : DataW H) : Prop := ∀ n ∈ d.weights Try.prog t, n ≤ reachBytes
theorem weights_all {H : Type} {e : TypeId} : ∀ {l : List (DataW H)} {d : DataW H}, d ∈ l → ∀ n ∈ d.weights Try.prog e, n ∈ DataW.weightsAll Try.prog e l
  | x :: r, d, h, n, hn => by
    simp only [DataW.weightsAll, List.mem_append]
    rcases List.mem_cons.1 h with rfl | h
    · exact .inl hn
    · exact .inr (weights_all h n hn)
theorem small_slice {H : Type} {t e : TypeId} {elems spare : List (DataW H)} (hu : Try.prog.underlying t = some (.slice e)) (h : Small t (.slice elems spare)) : (elems.length + spare.length) * Try.prog.bytesOf e ≤ reachBytes ∧ ∀ d ∈ elems, Small e d := by
  refine ⟨h _ (by simp [DataW.weights, hu]), fun d hd n hn => h n ?_⟩
  simp only [DataW.weights, hu, List.mem_cons, List.mem_append]
  exact .inr (.inl (weights_all hd n hn))
theorem bytes_of {H : Type} {enc : TypeId × Value → H} {w : World} {held : Bool} {fuel : Nat} {v : Value} {x : DataW H × List MemPlace} (h : DataW.trod enc Try.prog w 0 (fun _ => true) held fuel 28 [v] = some x) :
    ∃ bs, Sl w v bs ∧ (Small 28 x.1 → bs.length ≤ 140737488355328) := by
  rcases ChangeShapes.open_ints Try.underlying28 Try.underlying5 Try.cells5 h with ⟨hcs, hx⟩ | ⟨y, l, c, zs, hcs, _, hl, hm, hz, hx, hcell, hwz⟩
  · simp at hcs
    subst hcs
    exact ⟨[], Row.nil w, fun _ => Nat.zero_le _⟩
  · simp at hcs
    subst hcs
    simp at hz
    have hlen : (bytesOfInts (zs.take l)).length = l := by simp [bytesOfInts]; omega
    refine ⟨bytesOfInts (zs.take l), ⟨some y, c, by rw [hlen], by rw [hlen]; exact hl, hm, fun hne => ?_⟩, fun hs => ?_⟩
    · obtain ⟨b, o, sp⟩ := y
      have h0 : 0 < l := by
        rcases Nat.eq_zero_or_pos l with h | h
        · subst h; exact absurd rfl hne
        · exact h
      have hsp : sp = none := spot_of (hcell 0 (by omega)) rfl
      subst hsp
      refine ⟨b, o, rfl, fun j u hu => ?_⟩
      obtain ⟨hj, rfl⟩ := bytes_cell _ (fun n hn => hwz n (List.mem_of_mem_take hn)) j u hu
      rw [List.length_take] at hj
      have := hcell j (by omega)
      rw [Addr.add_mid] at this
      rw [this]
      congr 2
      simp only [List.getD_eq_getElem?_getD, List.getElem?_take]
      rw [if_pos (by omega)]
    · have hx1 : x.1 = _ := congrArg Prod.fst hx
      rw [hx1] at hs
      have := (small_slice Try.underlying28 hs).1
      rw [show Try.prog.bytesOf 5 = 1 by kernel_rfl] at this
      have hr := reachBytes_lt
      simp [lits] at this
      rw [hlen]
      omega
theorem choose_texts {p : Nat → Value × List UInt8 → Prop} : ∀ n, (∀ k, k < n → ∃ R, p k R) → ∃ l : List (Value × List UInt8), l.length = n ∧ ∀ k, k < n → p k (l.getD k (.bool false, []))
  | 0, _ => ⟨[], rfl, fun k hk => absurd hk (Nat.not_lt_zero _)⟩
  | n + 1, h => by
    obtain ⟨l, hl, hp⟩ := choose_texts n (fun k hk => h k (by omega))
    obtain ⟨R, hR⟩ := h n (by omega)
    refine ⟨l ++ [R], by simp [hl], fun k hk => ?_⟩
    by_cases e : k < n
    · have := hp k e
      simp only [List.getD_eq_getElem?_getD] at this ⊢
      rwa [List.getElem?_append_left (by omega)]
    · have e : k = n := by omega
      subst e
      simp only [List.getD_eq_getElem?_getD]
      rw [List.getElem?_append_right (by omega), hl]
      simpa using hR
theorem txts_map {w : World} : ∀ (l : List (Value × List UInt8)), (∀ x ∈ l, Sl w x.1 x.2) → Txts w (l.map (·.1)) (l.map (·.2))
  | [], _ => trivial
  | x :: r, h => ⟨h x (by simp), txts_map r (fun y hy => h y (by simp [hy]))⟩
theorem texts_of {H : Type} {enc : TypeId × Value → H} {W : World} {held : Bool} {fuel : Nat} {v : Value} {x : DataW H × List MemPlace}
    (h : DataW.trod enc Try.prog W 0 (fun _ => true) held fuel 22 [v] = some x) :
    ∃ L, TsAt W v L ∧ (Small 22 x.1 → 24 * L.length + 24 ≤ 140737488355328 ∧ ∀ k ∈ L, k.length ≤ 140737488355328) := by
  rcases Deep.open_slice Try.underlying22 h with ⟨hcs, _⟩ | ⟨a', len', cap', m, n, D, Pl, hcs, hb, hl, hm, hmm, hxx, hx⟩
  · simp at hcs
    subst hcs
    exact ⟨[], TsAt.nil W, fun _ => ⟨by simp, by simp⟩⟩
  · simp at hcs
    subst hcs
    simp only [if_true] at hmm
    subst hmm
    obtain ⟨l, hll, hp⟩ := choose_texts (p := fun k R => W.cell? (a'.add k) = some R.1 ∧ Sl W R.1 R.2 ∧ (Small 28 (D k) → R.2.length ≤ 140737488355328)) len' (fun k hk => by
      obtain ⟨cs, hc, ht⟩ := hx k (by omega)
      rw [Try.cells28] at hc
      obtain ⟨_, hlen, hcell⟩ := World.cells?_some hc
      match cs, hlen with
      | [u], _ =>
        obtain ⟨bs, h1, h2⟩ := bytes_of ht
        have := hcell 0 (by omega)
        refine ⟨(u, bs), ?_, h1, h2⟩
        have e : (a'.add (k * 1)).add 0 = a'.add k := by obtain ⟨b, o, sp⟩ := a'; cases sp <;> simp [Addr.add]
        rw [e] at this
        simpa using this)
    have hmem : ∀ x ∈ l, ∃ k, k < len' ∧ x = l.getD k (.bool false, []) := fun x hx => by
      obtain ⟨k, hk, rfl⟩ := List.mem_iff_getElem.1 hx
      exact ⟨k, by omega, by simp [hk]⟩
    refine ⟨l.map (·.2), ⟨l.map (·.1), txts_map l (fun x hx => ?_), ?_⟩, fun hs => ?_⟩
    · obtain ⟨k, hk, rfl⟩ := hmem x hx
      exact (hp k hk).2.1
    · rw [List.length_map, hll]
      refine ⟨_, _, rfl, hl, hm, fun hne => ?_⟩
      have h0 : 0 < len' := by
        rcases Nat.eq_zero_or_pos len' with h | h
        · exact absurd (by rw [List.eq_nil_of_length_eq_zero (hll.trans h)]; rfl) hne
        · exact h
      obtain ⟨b, o, sp⟩ := a'
      have hsp : sp = none := spot_of (hp 0 h0).1 rfl
      subst hsp
      refine ⟨b, o, rfl, fun j u hu => ?_⟩
      rw [List.getElem?_map] at hu
      cases hj : l[j]? with
      | none => rw [hj] at hu; simp at hu
      | some R =>
        rw [hj] at hu
        simp at hu
        subst hu
        have hjl := (List.getElem?_eq_some_iff.1 hj).1
        have := (hp j (by omega)).1
        rw [Addr.add_mid] at this
        rw [this]
        simp [hj]
    · have hx1 : x.1 = _ := congrArg Prod.fst hxx
      rw [hx1] at hs
      obtain ⟨s1, s2⟩ := small_slice Try.underlying22 hs
      rw [show Try.prog.bytesOf 28 = 24 by kernel_rfl] at s1
      have hr : reachBytes = 140737488351232 := by decide
      simp at s1
      refine ⟨by rw [List.length_map, hll]; omega, fun k hk => ?_⟩
      obtain ⟨R, hR, rfl⟩ := List.mem_map.1 hk
      obtain ⟨j, hj, rfl⟩ := hmem R hR
      exact (hp j hj).2.2 (s2 _ (by simp; exact ⟨j, hj, rfl⟩))
theorem ints_of {H : Type} {enc : TypeId × Value → H} {w : World} {held : Bool} {fuel : Nat} {v : Value} {x : DataW H × List MemPlace} (h : DataW.trod enc Try.prog w 0 (fun _ => true) held fuel 24 [v] = some x) :
    ∃ l, InAt w v l ∧ (Small 24 x.1 → 8 * l.length ≤ 140737488355328) := by
  rcases ChangeShapes.open_ints Try.underlying24 Try.underlying3 Try.cells3 h with ⟨hcs, hx⟩ | ⟨y, l, c, zs, hcs, _, hl, hm, hz, hx, hcell, hwz⟩
  · simp at hcs
    subst hcs
    exact ⟨[], Row.nil w, fun _ => by simp⟩
  · simp at hcs
    subst hcs
    simp at hz
    have hlen : (zs.take l).length = l := by simp; omega
    refine ⟨zs.take l, ⟨some y, c, by rw [hlen], by rw [hlen]; exact hl, hm, fun hne => ?_⟩, fun hs => ?_⟩
    · obtain ⟨b, o, sp⟩ := y
      have h0 : 0 < l := by
        rcases Nat.eq_zero_or_pos l with h | h
        · subst h; exact absurd rfl hne
        · exact h
      have hsp : sp = none := spot_of (hcell 0 (by omega)) rfl
      subst hsp
      refine ⟨b, o, rfl, fun j u hu => ?_⟩
      have hj : j < (zs.take l).length := by
        have := (List.getElem?_eq_some_iff.1 hu).1
        rwa [length_intCells] at this
      have := hcell j (by omega)
      rw [Addr.add_mid] at this
      rw [this]
      have e : (intCells (zs.take l))[j]? = some (.int .i64 (zs.getD j 0)) := by
        rw [hlen] at hj
        simp [intCells, icell, List.getElem?_take, hj]
        rw [List.getElem?_eq_getElem (by omega)]
        simp
      rw [e] at hu
      exact hu
    · have hx1 : x.1 = _ := congrArg Prod.fst hx
      rw [hx1] at hs
      have := (small_slice Try.underlying24 hs).1
      rw [show Try.prog.bytesOf 3 = 8 by kernel_rfl] at this
      have hr := reachBytes_lt
      simp [lits] at this
      rw [hlen]
      omega
theorem node_of {H : Type} {enc : TypeId × Value → H} {W : World} {held : Bool} {fuel : Nat} {cs : List Value} {x : DataW H × List MemPlace} (h : DataW.trod enc Try.prog W 0 (fun _ => true) held fuel 26 cs = some x) :
    ∃ (N : Nd) (vk vv vi : Value), cs = [.bool N.leaf, vk, vv, vi, .int .i64 N.next] ∧ NdAt W N vk vv vi ∧ (Small 26 x.1 → Fits N ∧ (N.keys.length + 1) * 24 ≤ 140737488355328 ∧ (N.vals.length + 1) * 24 ≤ 140737488355328) := by
  obtain ⟨xs, n', _, hx, hlen, hxl, hf⟩ := DataW.trod_struct Try.underlying26 h
  have c26 : Try.prog.cellsOf 26 = 5 := by kernel_rfl
  rw [c26] at hlen
  have hxl : xs.length = 5 := hxl
  match cs, hlen with
  | [v0, v1, v2, v3, v4], _ =>
    match xs, hxl with
    | [y0, y1, y2, y3, y4], _ =>
      have g0 := hf 0 _ rfl
      have g1 := hf 1 _ rfl
      have g2 := hf 2 _ rfl
      have g3 := hf 3 _ rfl
      have g4 := hf 4 _ rfl
      simp [Try.cells4] at g0
      simp [Try.cells22] at g1 g2
      simp [Try.cells24] at g3
      simp [Try.cells3] at g4
      obtain ⟨b, q0, e0⟩ := DataW.trod_bool Try.underlying4 g0
      obtain ⟨L1, t1, s1⟩ := texts_of g1
      obtain ⟨L2, t2, s2⟩ := texts_of g2
      obtain ⟨l3, t3, s3⟩ := ints_of g3
      obtain ⟨i4, q4, _, w4⟩ := DataW.trod_int Try.underlying3 g4
      simp only [List.cons.injEq, and_true] at q0 q4
      subst q0 q4
      refine ⟨⟨b, L1, L2, l3, i4⟩, v1, v2, v3, rfl, ⟨t1, t2, t3⟩, fun hs => ?_⟩
      have hx1 : x.1 = _ := congrArg Prod.fst hx
      rw [hx1] at hs
      have hsub : ∀ (j : Nat) (t : TypeId) (d : DataW H), [4, 22, 22, 24, 3][j]? = some t → [y0.1, y1.1, y2.1, y3.1, y4.1][j]? = some d → Small t d := fun j t d ht hd n hn => hs n (by
        simp only [DataW.weights, Try.underlying26]
        exact DataW.weights_mem_each (ts := [4, 22, 22, 24, 3]) ht hd n hn)
      obtain ⟨a1, a2⟩ := s1 (hsub 1 22 _ rfl rfl)
      obtain ⟨b1, b2⟩ := s2 (hsub 2 22 _ rfl rfl)
      exact ⟨⟨by show 24 * L1.length ≤ _; omega, by show 24 * L2.length ≤ _; omega, s3 (hsub 3 24 _ rfl rfl), a2, b2⟩, by show (L1.length + 1) * 24 ≤ _; omega, by show (L2.length + 1) * 24 ≤ _; omega⟩
theorem node_room {H : Type} {enc : TypeId × Value → H} {W : World} {held : Bool} {base : Nat} {v : Value} {d : DataW H} {p : List MemPlace} (hv : Value.okWide Try.prog W .any base 26 v) (h : DataW.Trod enc Try.prog W 0 (fun _ => true) held 26 v d p) :
    ∃ (N : Nd) (vk vv vi : Value), v = .agg #[.bool N.leaf, vk, vv, vi, .int .i64 N.next] ∧ NdAt W N vk vv vi ∧ (Small 26 d → Fits N ∧ (N.keys.length + 1) * 24 ≤ 140737488355328 ∧ (N.vals.length + 1) * 24 ≤ 140737488355328) := by
  obtain ⟨cs, rfl, hcs⟩ := okWide_struct Try.underlying26 hv
  obtain ⟨fuel, hf⟩ := h
  obtain ⟨N, vk, vv, vi, h1, h2, h3⟩ := node_of hf
  refine ⟨N, vk, vv, vi, ?_, h2, h3⟩
  simp only [Value.cells] at h1
  have : cs = #[.bool N.leaf, vk, vv, vi, .int .i64 N.next] := by
    apply Array.ext'
    exact h1
  rw [this]
theorem node_arg {H : Type} {enc : TypeId × Value → H} {W : World} {held : Bool} {base : Nat} {v : Value} {d : DataW H} {p : List MemPlace} (hv : Value.okWide Try.prog W .any base 26 v) (h : DataW.Trod enc Try.prog W 0 (fun _ => true) held 26 v d p) :
    ∃ (N : Nd) (vk vv vi : Value), v = .agg #[.bool N.leaf, vk, vv, vi, .int .i64 N.next] ∧ NdAt W N vk vv vi ∧ (Small 26 d → Fits N) :=
  let ⟨N, vk, vv, vi, h1, h2, h3⟩ := node_room hv h
  ⟨N, vk, vv, vi, h1, h2, fun hs => (h3 hs).1⟩
theorem bytes_arg {H : Type} {enc : TypeId × Value → H} {W : World} {held : Bool} {base : Nat} {v : Value} {d : DataW H} {p : List MemPlace} (hv : Value.okWide Try.prog W .any base 28 v) (h : DataW.Trod enc Try.prog W 0 (fun _ => true) held 28 v d p) :
    ∃ bs, Sl W v bs ∧ (Small 28 d → bs.length ≤ 140737488355328) := by
  obtain ⟨a, len, cap, rfl⟩ := okWide_slice Try.underlying28 hv
  obtain ⟨fuel, hf⟩ := h
  exact bytes_of hf
theorem texts_arg {H : Type} {enc : TypeId × Value → H} {W : World} {held : Bool} {base : Nat} {v : Value} {d : DataW H} {p : List MemPlace} (hv : Value.okWide Try.prog W .any base 22 v) (h : DataW.Trod enc Try.prog W 0 (fun _ => true) held 22 v d p) :
    ∃ L, TsAt W v L ∧ (Small 22 d → 24 * L.length ≤ 140737488355328 ∧ ∀ k ∈ L, k.length ≤ 140737488355328) := by
  obtain ⟨a, len, cap, rfl⟩ := okWide_slice Try.underlying22 hv
  obtain ⟨fuel, hf⟩ := h
  obtain ⟨L, h1, h2⟩ := texts_of hf
  exact ⟨L, h1, fun hs => ⟨by have := (h2 hs).1; omega, (h2 hs).2⟩⟩
theorem small_arg {H : Type} {ts : List TypeId} {ds : List (DataW H)} (h : (DataW.weightsEach Try.prog ts ds).all (· ≤ reachBytes) = true) {j : Nat} {t : TypeId} {d : DataW H} (ht : ts[j]? = some t) (hd : ds[j]? = some d) : Small t d := fun n hn => by
  have := List.all_eq_true.1 h n (DataW.weights_mem_each ht hd n hn)
  simpa using this
end Go.Proofs.Ytjcobejaldfibaa
