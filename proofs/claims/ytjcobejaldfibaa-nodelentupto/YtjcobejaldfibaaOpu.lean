/- Nodes and bytes that came in, by bulk. -/
import Derived.Test.YtjcobejaldfibaaOpn
import Derived.Test.YtjcobejaldfibaaLnp
namespace Go.Proofs.Ytjcobejaldfibaa
open Go.ChangeShapes Go.WideShapes Go.ChangeAt Go.RowKit
set_option linter.unusedVariables false
set_option linter.unusedSimpArgs false

theorem bulk_one {H : Type} (d : DataW H) : 1 ≤ Rows.uptoBulk d := by
  cases d with
  | lit l => cases l <;> simp [Rows.uptoBulk]
  | nil => simp [Rows.uptoBulk]
  | ptr d => simp [Rows.uptoBulk]
  | slice elems spare => simp [Rows.uptoBulk]
  | agg parts => simp [Rows.uptoBulk]
  | iface t d => simp [Rows.uptoBulk]
  | map entries => simp [Rows.uptoBulk]
  | held h => simp [Rows.uptoBulk]
theorem bulk_part {H : Type} {d : DataW H} {l : List (DataW H)} (h : d ∈ l) : Rows.uptoBulk d ≤ Rows.uptoBulkAll l := by
  induction l with
  | nil => cases h
  | cons x r ih =>
    simp only [Rows.uptoBulkAll]
    cases List.mem_cons.1 h with
    | inl e => subst e; omega
    | inr e => have := ih e; omega
theorem bulk_len {H : Type} (l : List (DataW H)) : l.length ≤ Rows.uptoBulkAll l := by
  induction l with
  | nil => simp [Rows.uptoBulkAll]
  | cons x r ih => have := bulk_one x; simp only [Rows.uptoBulkAll, List.length_cons]; omega
theorem bulk_slice {H : Type} (elems spare : List (DataW H)) : elems.length + spare.length + 1 ≤ Rows.uptoBulk (.slice elems spare) := by
  have h1 := bulk_len elems
  have h2 := bulk_len spare
  simp only [Rows.uptoBulk]
  omega
theorem bulk_elems {H : Type} (elems spare : List (DataW H)) : Rows.uptoBulkAll elems ≤ Rows.uptoBulk (.slice elems spare) := by
  simp only [Rows.uptoBulk]
  omega
theorem bulk_bound {H : Type} {l : List (DataW H)} (hk : Rows.uptoSmall H l = true) : Rows.uptoBulkAll l ≤ 1048576 := of_decide_eq_true hk
theorem bytes_bulk {H : Type} {enc : TypeId × Value → H} {w : World} {held : Bool} {fuel : Nat} {v : Value} {x : DataW H × List MemPlace} (h : DataW.trod enc Try.prog w 0 (fun _ => true) held fuel 28 [v] = some x) :
    ∃ bs, Sl w v bs ∧ bs.length ≤ Rows.uptoBulk x.1 := by
  rcases ChangeShapes.open_ints Try.underlying28 Try.underlying5 Try.cells5 h with ⟨hcs, hx⟩ | ⟨y, l, c, zs, hcs, _, hl, hm, hz, hx, hcell, hwz⟩
  · simp at hcs
    subst hcs
    exact ⟨[], Row.nil w, Nat.zero_le _⟩
  · simp at hcs
    subst hcs
    simp at hz
    have hlen : (bytesOfInts (zs.take l)).length = l := by simp [bytesOfInts]; omega
    refine ⟨bytesOfInts (zs.take l), ⟨some y, c, by rw [hlen], by rw [hlen]; exact hl, hm, fun hne => ?_⟩, ?_⟩
    · obtain ⟨b, o, sp⟩ := y
      have h0 : 0 < l := by
        rcases Nat.eq_zero_or_pos l with h | h
        · subst h; exact absurd rfl hne
        · exact h
      have hsp : sp = none := spot_of (hcell 0 (by omega)) rfl
      subst hsp
      refine ⟨b, o, rfl, fun j u hu => ?_⟩
      obtain ⟨hj, rfl⟩ := bytes_cell _ (fun n hn => hwz n (List.mem_of_mem_take hn)) j u hu
      rw [List.length_take] at hj
      have := hcell j (by omega)
      rw [Addr.add_mid] at this
      rw [this]
      congr 2
      simp only [List.getD_eq_getElem?_getD, List.getElem?_take]
      rw [if_pos (by omega)]
    · rw [hlen]
      have hx1 : x.1 = _ := congrArg Prod.fst hx
      rw [hx1]
      refine Nat.le_trans ?_ (Nat.le_of_succ_le (bulk_slice _ _))
      simp [lits]
      omega
theorem texts_bulk {H : Type} {enc : TypeId × Value → H} {W : World} {held : Bool} {fuel : Nat} {v : Value} {x : DataW H × List MemPlace}
    (h : DataW.trod enc Try.prog W 0 (fun _ => true) held fuel 22 [v] = some x) :
    ∃ L, TsAt W v L ∧ L.length ≤ Rows.uptoBulk x.1 ∧ ∀ k ∈ L, k.length ≤ Rows.uptoBulk x.1 := by
  rcases Deep.open_slice Try.underlying22 h with ⟨hcs, _⟩ | ⟨a', len', cap', m, n, D, Pl, hcs, hb, hl, hm, hmm, hxx, hx⟩
  · simp at hcs
    subst hcs
    exact ⟨[], TsAt.nil W, Nat.zero_le _, by simp⟩
  · simp at hcs
    subst hcs
    simp only [if_true] at hmm
    subst hmm
    obtain ⟨l, hll, hp⟩ := choose_texts (p := fun k R => W.cell? (a'.add k) = some R.1 ∧ Sl W R.1 R.2 ∧ R.2.length ≤ Rows.uptoBulk (D k)) len' (fun k hk => by
      obtain ⟨cs, hc, ht⟩ := hx k (by omega)
      rw [Try.cells28] at hc
      obtain ⟨_, hlen, hcell⟩ := World.cells?_some hc
      match cs, hlen with
      | [u], _ =>
        obtain ⟨bs, h1, h2⟩ := bytes_bulk ht
        have := hcell 0 (by omega)
        refine ⟨(u, bs), ?_, h1, h2⟩
        have e : (a'.add (k * 1)).add 0 = a'.add k := by obtain ⟨b, o, sp⟩ := a'; cases sp <;> simp [Addr.add]
        rw [e] at this
        simpa using this)
    have hmem : ∀ x ∈ l, ∃ k, k < len' ∧ x = l.getD k (.bool false, []) := fun x hx => by
      obtain ⟨k, hk, rfl⟩ := List.mem_iff_getElem.1 hx
      exact ⟨k, by omega, by simp [hk]⟩
    refine ⟨l.map (·.2), ⟨l.map (·.1), txts_map l (fun x hx => ?_), ?_⟩, ?_⟩
    · obtain ⟨k, hk, rfl⟩ := hmem x hx
      exact (hp k hk).2.1
    · rw [List.length_map, hll]
      refine ⟨_, _, rfl, hl, hm, fun hne => ?_⟩
      have h0 : 0 < len' := by
        rcases Nat.eq_zero_or_pos len' with h | h
        · exact absurd (by rw [List.eq_nil_of_length_eq_zero (hll.trans h)]; rfl) hne
        · exact h
      obtain ⟨b, o, sp⟩ := a'
      have hsp : sp = none := spot_of (hp 0 h0).1 rfl
      subst hsp
      refine ⟨b, o, rfl, fun j u hu => ?_⟩
      rw [List.getElem?_map] at hu
      cases hj : l[j]? with
      | none => rw [hj] at hu; simp at hu
      | some R =>
        rw [hj] at hu
        simp at hu
        subst hu
        have hjl := (List.getElem?_eq_some_iff.1 hj).1
        have := (hp j (by omega)).1
        rw [Addr.add_mid] at this
        rw [this]
        simp [hj]
    · have hx1 : x.1 = _ := congrArg Prod.fst hxx
      rw [hx1]
      refine ⟨?_, fun k hk => ?_⟩
      · rw [List.length_map, hll]
        refine Nat.le_trans ?_ (Nat.le_of_succ_le (bulk_slice _ _))
        simp
      · obtain ⟨R, hR, rfl⟩ := List.mem_map.1 hk
        obtain ⟨j, hj, rfl⟩ := hmem R hR
        refine Nat.le_trans (hp j hj).2.2 ?_
        refine Nat.le_trans (bulk_part (l := _) ?_) (bulk_elems _ _)
        simp
        exact ⟨j, hj, rfl⟩
theorem ints_bulk {H : Type} {enc : TypeId × Value → H} {w : World} {held : Bool} {fuel : Nat} {v : Value} {x : DataW H × List MemPlace} (h : DataW.trod enc Try.prog w 0 (fun _ => true) held fuel 24 [v] = some x) :
    ∃ l, InAt w v l ∧ l.length ≤ Rows.uptoBulk x.1 := by
  rcases ChangeShapes.open_ints Try.underlying24 Try.underlying3 Try.cells3 h with ⟨hcs, hx⟩ | ⟨y, l, c, zs, hcs, _, hl, hm, hz, hx, hcell, hwz⟩
  · simp at hcs
    subst hcs
    exact ⟨[], Row.nil w, Nat.zero_le _⟩
  · simp at hcs
    subst hcs
    simp at hz
    have hlen : (zs.take l).length = l := by simp; omega
    refine ⟨zs.take l, ⟨some y, c, by rw [hlen], by rw [hlen]; exact hl, hm, fun hne => ?_⟩, ?_⟩
    · obtain ⟨b, o, sp⟩ := y
      have h0 : 0 < l := by
        rcases Nat.eq_zero_or_pos l with h | h
        · subst h; exact absurd rfl hne
        · exact h
      have hsp : sp = none := spot_of (hcell 0 (by omega)) rfl
      subst hsp
      refine ⟨b, o, rfl, fun j u hu => ?_⟩
      have hj : j < (zs.take l).length := by
        have := (List.getElem?_eq_some_iff.1 hu).1
        rwa [length_intCells] at this
      have := hcell j (by omega)
      rw [Addr.add_mid] at this
      rw [this]
      have e : (intCells (zs.take l))[j]? = some (.int .i64 (zs.getD j 0)) := by
        rw [hlen] at hj
        simp [intCells, icell, List.getElem?_take, hj]
        rw [List.getElem?_eq_getElem (by omega)]
        simp
      rw [e] at hu
      exact hu
    · rw [hlen]
      have hx1 : x.1 = _ := congrArg Prod.fst hx
      rw [hx1]
      refine Nat.le_trans ?_ (Nat.le_of_succ_le (bulk_slice _ _))
      simp [lits]
      omega
theorem node_bulk {H : Type} {enc : TypeId × Value → H} {W : World} {held : Bool} {fuel : Nat} {cs : List Value} {x : DataW H × List MemPlace} (h : DataW.trod enc Try.prog W 0 (fun _ => true) held fuel 26 cs = some x) :
    ∃ (N : Nd) (vk vv vi : Value), cs = [.bool N.leaf, vk, vv, vi, .int .i64 N.next] ∧ NdAt W N vk vv vi ∧ (Rows.uptoBulk x.1 ≤ 1048576 → Few N) := by
  obtain ⟨xs, n', _, hx, hlen, hxl, hf⟩ := DataW.trod_struct Try.underlying26 h
  have c26 : Try.prog.cellsOf 26 = 5 := by kernel_rfl
  rw [c26] at hlen
  have hxl : xs.length = 5 := hxl
  match cs, hlen with
  | [v0, v1, v2, v3, v4], _ =>
    match xs, hxl with
    | [y0, y1, y2, y3, y4], _ =>
      have g0 := hf 0 _ rfl
      have g1 := hf 1 _ rfl
      have g2 := hf 2 _ rfl
      have g3 := hf 3 _ rfl
      have g4 := hf 4 _ rfl
      simp [Try.cells4] at g0
      simp [Try.cells22] at g1 g2
      simp [Try.cells24] at g3
      simp [Try.cells3] at g4
      obtain ⟨b, q0, e0⟩ := DataW.trod_bool Try.underlying4 g0
      obtain ⟨L1, t1, a1, a2⟩ := texts_bulk g1
      obtain ⟨L2, t2, b1, b2⟩ := texts_bulk g2
      obtain ⟨l3, t3, s3⟩ := ints_bulk g3
      obtain ⟨i4, q4, _, w4⟩ := DataW.trod_int Try.underlying3 g4
      simp only [List.cons.injEq, and_true] at q0 q4
      subst q0 q4
      refine ⟨⟨b, L1, L2, l3, i4⟩, v1, v2, v3, rfl, ⟨t1, t2, t3⟩, fun hs => ?_⟩
      have hx1 : x.1 = _ := congrArg Prod.fst hx
      rw [hx1] at hs
      simp only [List.map_cons, List.map_nil, Rows.uptoBulk, Rows.uptoBulkAll] at hs
      exact ⟨by show L1.length ≤ _; omega, by show L2.length ≤ _; omega, by show l3.length ≤ _; omega, fun k hk => by have := a2 k hk; omega, fun k hk => by have := b2 k hk; omega⟩
theorem node_argU {H : Type} {enc : TypeId × Value → H} {W : World} {held : Bool} {base : Nat} {v : Value} {d : DataW H} {p : List MemPlace} (hv : Value.okWide Try.prog W .any base 26 v) (h : DataW.Trod enc Try.prog W 0 (fun _ => true) held 26 v d p) :
    ∃ (N : Nd) (vk vv vi : Value), v = .agg #[.bool N.leaf, vk, vv, vi, .int .i64 N.next] ∧ NdAt W N vk vv vi ∧ (Rows.uptoBulk d ≤ 1048576 → Few N) := by
  obtain ⟨cs, rfl, hcs⟩ := okWide_struct Try.underlying26 hv
  obtain ⟨fuel, hf⟩ := h
  obtain ⟨N, vk, vv, vi, h1, h2, h3⟩ := node_bulk hf
  refine ⟨N, vk, vv, vi, ?_, h2, h3⟩
  simp only [Value.cells] at h1
  have : cs = #[.bool N.leaf, vk, vv, vi, .int .i64 N.next] := by
    apply Array.ext'
    exact h1
  rw [this]
theorem bytes_argU {H : Type} {enc : TypeId × Value → H} {W : World} {held : Bool} {base : Nat} {v : Value} {d : DataW H} {p : List MemPlace} (hv : Value.okWide Try.prog W .any base 28 v) (h : DataW.Trod enc Try.prog W 0 (fun _ => true) held 28 v d p) :
    ∃ bs, Sl W v bs ∧ bs.length ≤ Rows.uptoBulk d := by
  obtain ⟨a, len, cap, rfl⟩ := okWide_slice Try.underlying28 hv
  obtain ⟨fuel, hf⟩ := h
  exact bytes_bulk hf
end Go.Proofs.Ytjcobejaldfibaa
