/- reached: which places can be reached by way of places up to the last. -/
import Derived.Test.YtaoghggbcbpapaaWay
namespace Go.Proofs.Ytaoghggbcbpapaa
open Go.RowKit
set_option linter.unusedVariables false
set_option linter.unusedSimpArgs false

/-- A step to a place up to the last. -/
def St (Nx : List (List Nat)) (last : Nat) (a b : Nat) : Prop := (∃ L, Nx[a]? = some L ∧ b ∈ L) ∧ b ≤ last
/-- What was found so far. -/
structure Bfs (Nx : List (List Nat)) (fr last : Nat) (bs : List Bool) (rest : List Nat) : Prop where
  len : bs.length = last + 1
  mem : ∀ t, bs[t]? = some true ↔ t ∈ rest
  cnt : rest.length = bs.countP id
  rch : ∀ t ∈ rest, Rch (St Nx last) fr t
/-- Of the first i of the list all steps were gone. -/
def Gone (Nx : List (List Nat)) (fr last : Nat) (rest : List Nat) (i : Nat) : Prop := ∀ (j x : Nat), j < i → (fr :: rest)[j]? = some x → ∀ b, St Nx last x b → b ∈ rest
/-- What reached tells. -/
structure ReIs (Nx : List (List Nat)) (fr last : Nat) (bs : List Bool) : Prop where
  len : bs.length = last + 1
  just : ∀ t, t ≤ last → (bs[t]? = some true ↔ Rch (St Nx last) fr t)
theorem Bfs.le {Nx : List (List Nat)} {fr last : Nat} {bs : List Bool} {rest : List Nat} (h : Bfs Nx fr last bs rest) : rest.length ≤ last + 1 := by
  rw [h.cnt, ← h.len]
  exact List.countP_le_length
theorem Bfs.start (Nx : List (List Nat)) (fr last : Nat) : Bfs Nx fr last (List.replicate (last + 1) false) [] := by
  refine ⟨by simp, fun t => ?_, ?_, fun t h => by simp at h⟩
  · rw [List.getElem?_replicate]
    split <;> simp
  · rw [List.countP_replicate]
    simp
theorem Bfs.add {Nx : List (List Nat)} {fr last : Nat} {bs : List Bool} {rest : List Nat} (h : Bfs Nx fr last bs rest) {x t : Nat} (hx : x = fr ∨ x ∈ rest) (hs : St Nx last x t) (hb : bs[t]? = some false) : Bfs Nx fr last (bs.set t true) (rest ++ [t]) := by
  obtain ⟨hlt, hbt⟩ := List.getElem?_eq_some_iff.1 hb
  refine ⟨by simp [h.len], fun u => ?_, ?_, fun u hu => ?_⟩
  · rw [List.mem_append, List.mem_singleton, ← h.mem u]
    by_cases hu : u = t
    · subst hu
      rw [List.getElem?_set_self hlt]
      simp
    · rw [List.getElem?_set_ne (fun e => hu e.symm)]
      simp [hu]
  · rw [List.length_append, List.countP_set hlt, hbt, h.cnt]
    simp
  · rcases List.mem_append.1 hu with h1 | h1
    · exact h.rch u h1
    · rw [List.mem_singleton] at h1
      subst h1
      rcases hx with e | e
      · subst e; exact Rch.one hs
      · exact (h.rch x e).tail hs
theorem Bfs.full {Nx : List (List Nat)} {fr last : Nat} {bs : List Bool} {rest : List Nat} (h : Bfs Nx fr last bs rest) (hl : rest.length = last + 1) : ReIs Nx fr last bs := by
  refine ⟨h.len, fun t ht => ?_⟩
  have ha : ∀ b ∈ bs, id b = true := by
    refine List.countP_eq_length.1 ?_
    rw [← h.cnt, hl, h.len]
  have hb : bs[t]? = some true := by
    have hlt : t < bs.length := by rw [h.len]; omega
    rw [List.getElem?_eq_getElem hlt]
    have := ha _ (List.getElem_mem hlt)
    simpa using this
  exact ⟨fun _ => h.rch t ((h.mem t).1 hb), fun _ => hb⟩
theorem Bfs.done {Nx : List (List Nat)} {fr last : Nat} {bs : List Bool} {rest : List Nat} (h : Bfs Nx fr last bs rest) (hd : Gone Nx fr last rest (rest.length + 1)) : ReIs Nx fr last bs := by
  refine ⟨h.len, fun t ht => ?_⟩
  rw [h.mem]
  constructor
  · exact h.rch t
  · intro r
    refine r.closed (P := fun x => x ∈ rest) (fun x hx => hd 0 fr (by omega) rfl x hx) (fun x y hx hs => ?_)
    obtain ⟨j, hj, e⟩ := List.mem_iff_getElem.1 hx
    exact hd (j + 1) x (by omega) (by rw [List.getElem?_cons_succ, List.getElem?_eq_getElem hj, e]) y hs
theorem Gone.grow {Nx : List (List Nat)} {fr last : Nat} {rest : List Nat} {i : Nat} (h : Gone Nx fr last rest i) (hi : i ≤ rest.length + 1) (t : Nat) : Gone Nx fr last (rest ++ [t]) i := by
  intro j x hj hx b hb
  refine List.mem_append.2 (.inl (h j x hj ?_ b hb))
  rw [show fr :: (rest ++ [t]) = (fr :: rest) ++ [t] from rfl, List.getElem?_append_left (by simp; omega)] at hx
  exact hx
theorem Gone.next {Nx : List (List Nat)} {fr last : Nat} {rest : List Nat} {i x : Nat} {L : List Nat} (h : Gone Nx fr last rest i) (hx : (fr :: rest)[i]? = some x) (hL : Nx[x]? = some L) (hl : ∀ b ∈ L, b ≤ last → b ∈ rest) : Gone Nx fr last rest (i + 1) := by
  intro j y hj hy b hb
  by_cases e : j = i
  · subst e
    rw [hx] at hy
    injection hy with hy
    subst hy
    obtain ⟨⟨M, hM, hm⟩, hle⟩ := hb
    rw [hL] at hM
    injection hM with hM
    subst hM
    exact hl b hm hle
  · exact h j y (by omega) hy b hb
/-- How it lies in memory. -/
structure Rea (w0 w : World) (v : Value) (bs : List Bool) (l : List Nat) : Prop where
  below : Below w0.heap.size w0 w
  seen : w.heap[w0.heap.size]? = some (.cells (bs.map Value.bool).toArray 4 (0, 0))
  list : w.ownsRow w0.heap.size 3 1 v l.length (l.map ncell)
theorem Rea.mark {w0 w : World} {v : Value} {bs : List Bool} {l : List Nat} (h : Rea w0 w v bs l) (t : Nat) : Rea w0 (w.setCell ⟨w0.heap.size, t, none⟩ (.bool true)) v (bs.set t true) l := by
  refine ⟨Below.setCell' h.below _ _ (Nat.le_refl _), ?_, owns_stay h.list fun k hk => Below.heap_setCell _ _ _ _ (fun e => ?_)⟩
  · rw [heap_set_same _ h.seen]
    simp [List.map_set]
  · subst e
    exact owns_ne h.list h.seen (by decide) hk
theorem Rea.alloc {w0 w : World} {v : Value} {bs : List Bool} {l : List Nat} (h : Rea w0 w v bs l) (o : Obj) : Rea w0 (w.alloc o) v bs l := by
  have hb : Below w.heap.size w (w.alloc o) := (Below.refl _ w).alloc (Nat.le_refl _) _
  exact ⟨h.below.trans (hb.mono h.below.size), (hb.block _ (lt_of_heap h.seen)).trans h.seen, owns_below h.list hb (Nat.le_refl _)⟩
theorem Rea.grow {w0 w w' : World} {v v' : Value} {bs : List Bool} {l : List Nat} (h : Rea w0 w v bs l) {t : Nat} (ho : w'.ownsRow w0.heap.size 3 1 v' (l.length + 1) (l.map ncell ++ [.int .i64 (t : Int)])) (hg : w.grownBy w' v.ownBlock) : Rea w0 w' v' bs (l ++ [t]) := by
  refine ⟨h.below.grown hg h.below.size (fun k hk => (h.list.lt k hk).1), (hg.block _ (lt_of_heap h.seen) (fun e => owns_ne h.list h.seen (by decide) e.symm)).trans h.seen, ?_⟩
  rw [List.length_append, List.map_append]
  exact ho
theorem Rea.cell {w0 w : World} {v : Value} {bs : List Bool} {l : List Nat} (h : Rea w0 w v bs l) {t : Nat} {b : Bool} (hb : bs[t]? = some b) : w.cell? ⟨w0.heap.size, t, none⟩ = some (.bool b) := by
  rw [cell_row h.seen]
  simp [hb]
theorem own_new (w : World) (base : Nat) (hb : base ≤ w.heap.size) (t : TypeId) (cs : List Value) (n : Nat) (hn : cs.length = n) (hl : n ≤ 1000) : (w.alloc (.cells cs.toArray t)).ownsRow base t 1 (.slice (some ⟨w.heap.size, 0, none⟩) n n) n cs :=
  ⟨by omega, .inr ⟨w.heap.size, n, cs.toArray, rfl, hb, heap_alloc_new _ _, Nat.le_refl _, by simp only [maxLen]; omega, by simp [hn], by rw [Nat.mul_one, ← hn]; simp⟩⟩
/-- The row of a list that is owned, and its cells. -/
theorem list_cells {w : World} {base : Nat} {v : Value} {l : List Nat} (h : w.ownsRow base 3 1 v l.length (l.map ncell)) (hl : l ≠ []) : ∃ g cap, v = .slice (some ⟨g, 0, none⟩) l.length cap ∧ g < w.heap.size ∧ ∀ (i x : Nat), l[i]? = some x → w.cell? ⟨g, i, none⟩ = some (.int .i64 (x : Int)) := by
  obtain ⟨ao, c, rfl, _, _, h3⟩ := Row.of_owns h
  rcases own_of h with ⟨h1, h2, _⟩ | ⟨g, cap, cur, e, h1, h2, _⟩
  · exact absurd (List.eq_nil_of_length_eq_zero h2) hl
  · injection e with e1 e2 e3
    subst e1
    obtain ⟨g', o', e, hr⟩ := h3 (by simpa using hl)
    injection e with e
    injection e with e5 e6
    subst e5 e6
    refine ⟨g, c, rfl, lt_of_heap h2, fun i x hx => ?_⟩
    have := hr i (ncell x) (by simp [hx])
    rw [Nat.zero_add] at this
    exact this
theorem row_cells {w : World} {v : Value} {l : List Nat} (h : Row w v l.length (l.map ncell)) : ∃ a c, v = .slice a l.length c ∧ ∀ (i x : Nat), l[i]? = some x → ∃ g o, a = some ⟨g, o, none⟩ ∧ g < w.heap.size ∧ w.cell? ⟨g, o + i, none⟩ = some (.int .i64 (x : Int)) := by
  obtain ⟨ao, c, rfl, _, _, h3⟩ := h
  refine ⟨ao, c, rfl, fun i x hx => ?_⟩
  obtain ⟨g, o, e, hr⟩ := h3 (by
    intro e
    rw [List.map_eq_nil_iff] at e
    subst e
    simp at hx)
  have := hr i (ncell x) (by simp [hx])
  exact ⟨g, o, e, World.block_lt_of_cell? _ _ this, this⟩
set_option maxHeartbeats 4000000 in
set_option maxRecDepth 100000 in
theorem reached_any {w : World} {g : Nat} {vs : List Value} {Nx : List (List Nat)} (hNx : NextAt w g vs Nx) (hNl : Nx.length ≤ 2000000) (hLs : ∀ (a : Nat) L, Nx[a]? = some L → L.length ≤ 1000000 ∧ ∀ b ∈ L, b < Nx.length) {fr last : Nat} (hfr : fr < Nx.length) (hla : last < Nx.length) :
    Calls Try.prog 20 #[.slice (some ⟨g, 0, none⟩) Nx.length Nx.length, .int .i64 (fr : Int), .int .i64 (last : Int)] w fun e w' => ∃ s bs, e = .returned (.slice (some ⟨s, 0, none⟩) (last + 1) (last + 1)) ∧ w'.heap[s]? = some (.cells (bs.map Value.bool).toArray 4 (0, 0)) ∧ ReIs Nx fr last bs ∧ Below w.heap.size w w' := by
  have HNX := hide hNx
  have HLS := hide hLs
  obtain ⟨m, hm⟩ : ∃ m, Nx.length = m := ⟨_, rfl⟩
  have HM := hide hm
  rw [hm] at hNl hfr hla ⊢
  obtain ⟨M, hM⟩ : ∃ M, last + 1 = M := ⟨_, rfl⟩
  have HMM := hide hM
  have hMl : M ≤ 2000000 := by omega
  have hM1 : 1 ≤ M := by omega
  rw [hM]
  have hmk : (Instr.makeSlice 46 (.int .i64 ((last : Int) + 1)) (.int .i64 ((last : Int) + 1))).run Try.prog w = .ok (.slice (some ⟨w.heap.size, 0, none⟩) M M) (w.alloc (.cells (List.replicate M (.bool false)).toArray 4)) := by
    have := make46 M hMl w
    rw [← hM] at this ⊢
    exact this
  have hs0 : (w.alloc (.cells (List.replicate M (.bool false)).toArray 4)).heap[w.heap.size]? = some (.cells ((List.replicate M false).map Value.bool).toArray 4 (0, 0)) := by rw [heap_alloc_new]; simp
  have hb0 : Below w.heap.size w (w.alloc (.cells (List.replicate M (.bool false)).toArray 4)) := (Below.refl _ w).alloc (Nat.le_refl _) _
  generalize w.alloc (.cells (List.replicate M (.bool false)).toArray 4) = w1 at *
  have HR0 : Hid (Rea w (w1.alloc (.cells #[.int .i64 (fr : Int)] 3)) (.slice (some ⟨w1.heap.size, 0, none⟩) 1 1) (List.replicate M false) [fr]) := by
    have hb1 : Below w1.heap.size w1 (w1.alloc (.cells #[.int .i64 (fr : Int)] 3)) := (Below.refl _ w1).alloc (Nat.le_refl _) _
    exact ⟨hb0.trans (hb1.mono hb0.size), (hb1.block _ (lt_of_heap hs0)).trans hs0, own_new w1 _ hb0.size 3 [.int .i64 (fr : Int)] 1 rfl (by omega)⟩
  have HF0 : Hid (Bfs Nx fr last (List.replicate M false) []) := by rw [← hM]; exact Bfs.start Nx fr last
  clear hM hm hNx hLs hs0 hb0
  go_enter Try.func20, Try.ntmps20
  go_wp2
  refine wp_scope_fwd 0 ?_
  go_wp2
  go_step3
  go_wp2
  go_loopw [8, 9, 10] (fun s8 v i wr => ∃ (k miss : Nat) (bs : List Bool) (rest : List Nat), i = .int .i64 k ∧ k ≤ rest.length + 1 ∧ s8 = .int .i64 miss ∧ 1 ≤ miss ∧ rest.length + miss = M ∧ Rea w wr v bs (fr :: rest) ∧ Bfs Nx fr last bs rest ∧ Gone Nx fr last rest k) (fun _ _ i _ => M + 2 - (intOf i).toNat)
  case atStart => exact ⟨0, M, _, [], rfl, by simp, rfl, hM1, by simp, HR0.out, HF0.out, fun j x hj => by omega⟩
  case round =>
    clear HR0 HF0 hmk
    obtain ⟨k, miss, bs, rest, rfl, hk, rfl, hmi, hrm, hR, hF, hG⟩ := hrel
    have HF := hide hF
    have HG := hide hG
    have HR := hide hR
    have hmM : miss ≤ M := by omega
    obtain ⟨ln, hln⟩ : ∃ ln, rest.length + 1 = ln := ⟨_, rfl⟩
    have HLN := hide hln
    have HRM := hide hrm
    have hlnM : ln + miss = M + 1 := by omega
    obtain ⟨gl, cap, rfl, hgl, hcl⟩ := list_cells hR.list (by simp)
    have hlen : (fr :: rest).length = ln := by rw [← hln]; rfl
    rw [hlen] at HR ⊢
    rw [hln] at hk
    have hbl := hide hR.below
    clear hF hG hR hln hrm
    by_cases hlt : k < ln
    · obtain ⟨x, hx⟩ : ∃ x, (fr :: rest)[k]? = some x := ⟨_, List.getElem?_eq_getElem (by rw [hlen]; exact hlt)⟩
      have hxl : x < m := by
        rcases k with _ | k
        · simp at hx; omega
        · rw [List.getElem?_cons_succ] at hx
          have h1 := (HF.out.mem x).2 (List.mem_of_getElem? hx)
          have h2 := (List.getElem?_eq_some_iff.1 h1).1
          rw [HF.out.len] at h2
          omega
      have hxr : x = fr ∨ x ∈ rest := by
        rcases List.mem_cons.1 (List.mem_of_getElem? hx) with e | e
        · exact .inl e
        · exact .inr e
      have hc1 := hcl k x hx
      obtain ⟨vx, hvx⟩ : ∃ v, vs[x]? = some v := ⟨_, List.getElem?_eq_getElem (by rw [HNX.out.len, HM.out]; exact hxl)⟩
      obtain ⟨L, hL⟩ : ∃ L, Nx[x]? = some L := ⟨_, List.getElem?_eq_getElem (by rw [HM.out]; exact hxl)⟩
      obtain ⟨aL, cL, rfl, hcL⟩ := row_cells (HNX.out.rows x vx L hvx hL)
      have hc2 : wr.cell? ⟨g, x, none⟩ = some (.slice aL L.length cL) := by
        rw [(hbl.out.cell (p := ⟨g, x, none⟩) (lt_of_heap HNX.out.row)), cell_row HNX.out.row]
        simpa using hvx
      obtain ⟨hLl, hLb⟩ := HLS.out x L hL
      obtain ⟨nl, hnl⟩ : ∃ nl, L.length = nl := ⟨_, rfl⟩
      have HNL := hide hnl
      rw [hnl] at hc2 hLl
      have HX := hide hx
      have HXR := hide hxr
      have HL := hide hL
      have HCL := hide hcL
      have HLB := hide hLb
      have HLEN := hide hlen
      clear hcl hx hxr hL hcL hnl hLb hlen hvx
      go_wp2
      have hlnM2 := hlnM
      clear hc1 hc2 hgl hbl
      go_loopw [8, 9, 34] (fun s8 v i wr => ∃ (q miss : Nat) (bs : List Bool) (rest : List Nat), i = .int .i64 q ∧ q ≤ nl ∧ s8 = .int .i64 miss ∧ 1 ≤ miss ∧ rest.length + miss = M ∧ k < rest.length + 1 ∧ Rea w wr v bs (fr :: rest) ∧ Bfs Nx fr last bs rest ∧ Gone Nx fr last rest k ∧ (fr :: rest)[k]? = some x ∧ (x = fr ∨ x ∈ rest) ∧ ∀ b ∈ L.take q, b ≤ last → b ∈ rest) (fun _ _ i _ => nl - (intOf i).toNat)
      case atStart => exact ⟨0, miss, bs, rest, rfl, by omega, rfl, hmi, HRM.out, by have := HLN.out; omega, HR.out, HF.out, HG.out, HX.out, HXR.out, by simp⟩
      case round =>
        clear HR HF HG HX HXR HRM HLN HLEN hlnM hmi hmM hlt hk hlnM2
        obtain ⟨q, miss, bs, rest, rfl, hq, rfl, hmi, hrm, hkr, hR, hF, hG, hX, hXR, hD⟩ := hrel
        have hmM : miss ≤ M := by omega
        have HRM := hide hrm
        have HF := hide hF
        have HG := hide hG
        have HR := hide hR
        have HX := hide hX
        have HXR := hide hXR
        have HD := hide hD
        have HKR := hide hkr
        clear hF hG hR hX hXR hD hrm hkr
        by_cases hql : q < nl
        · obtain ⟨t, ht⟩ : ∃ t, L[q]? = some t := ⟨_, List.getElem?_eq_getElem (by rw [HNL.out]; exact hql)⟩
          obtain ⟨gt, ot, hat, hgt, hct⟩ := HCL.out q t ht
          subst hat
          have hc3 : wr.cell? ⟨gt, ot + q, none⟩ = some (.int .i64 (t : Int)) := (HR.out.below.cell (p := ⟨gt, ot + q, none⟩) hgt).trans hct
          have htm : t < m := by rw [← HM.out]; exact HLB.out t (List.mem_of_getElem? ht)
          have HTK : Hid (L.take (q + 1) = L.take q ++ [t]) := take_snoc ht
          have HTL : Hid (t ∈ L) := List.mem_of_getElem? ht
          clear ht hct
          by_cases hto : last < t
          · have hd : decide ((t : Int) > (last : Int)) = true := by simp; omega
            go_wp2
            go_roundw
            case rel =>
              refine ⟨q + 1, miss, bs, rest, by go_num, by omega, rfl, hmi, HRM.out, HKR.out, HR.out, HF.out, HG.out, HX.out, HXR.out, fun b hb hle => ?_⟩
              rw [HTK.out] at hb
              rcases List.mem_append.1 hb with h1 | h1
              · exact HD.out b h1 hle
              · simp at h1; omega
            case measure => simp [intOf]; omega
          · have hd : decide ((t : Int) > (last : Int)) = false := by simp; omega
            have htM : t < M := by have := HMM.out; omega
            obtain ⟨bt, hbt⟩ : ∃ b, bs[t]? = some b := ⟨_, List.getElem?_eq_getElem (by rw [HF.out.len, HMM.out]; exact htM)⟩
            have hc4 := HR.out.cell hbt
            cases bt with
            | true =>
              have HTR : Hid (t ∈ rest) := (HF.out.mem t).1 hbt
              clear hbt
              go_wp2
              go_roundw
              case rel =>
                refine ⟨q + 1, miss, bs, rest, by go_num, by omega, rfl, hmi, HRM.out, HKR.out, HR.out, HF.out, HG.out, HX.out, HXR.out, fun b hb hle => ?_⟩
                rw [HTK.out] at hb
                rcases List.mem_append.1 hb with h1 | h1
                · exact HD.out b h1 hle
                · simp at h1; subst h1; exact HTR.out
              case measure => simp [intOf]; omega
            | false =>
              have HST : Hid (St Nx last x t) := ⟨⟨L, HL.out, HTL.out⟩, by omega⟩
              have HF2 : Hid (Bfs Nx fr last (bs.set t true) (rest ++ [t])) := HF.out.add HXR.out HST.out hbt
              have HR2 : Hid (Rea w (wr.setCell ⟨w.heap.size, t, none⟩ (.bool true)) u9 (bs.set t true) (fr :: rest)) := HR.out.mark t
              have hf4 : wr.frozen? ⟨w.heap.size, t, none⟩ = false := frozen_row HR.out.seen
              have HG2 : Hid (Gone Nx fr last (rest ++ [t]) k) := HG.out.grow (Nat.le_of_lt HKR.out) t
              have HX2 : Hid ((fr :: (rest ++ [t]))[k]? = some x) := by
                show (fr :: (rest ++ [t]))[k]? = some x
                rw [show fr :: (rest ++ [t]) = (fr :: rest) ++ [t] from rfl, List.getElem?_append_left (by have := HKR.out; simp; omega)]
                exact HX.out
              have HXR2 : Hid (x = fr ∨ x ∈ rest ++ [t]) := by
                rcases HXR.out with e | e
                · exact .inl e
                · exact .inr (by simp [e])
              have HD2 : Hid (∀ b ∈ L.take (q + 1), b ≤ last → b ∈ rest ++ [t]) := by
                intro b hb hle
                rw [HTK.out] at hb
                rcases List.mem_append.1 hb with h1 | h1
                · exact List.mem_append.2 (.inl (HD.out b h1 hle))
                · exact List.mem_append.2 (.inr h1)
              clear hbt HF HG HX HXR HD HST
              go_upto_region 12 with fail
              generalize hx2 : wr.setCell ⟨w.heap.size, t, none⟩ (.bool true) = x2 at *
              clear hx2 hc3 hc4 hf4 HR
              have HRW := hide (row_new x2 3 [.int .i64 (t : Int)] 1 (by omega))
              have HR3 : Hid (Rea w (x2.alloc (.cells #[.int .i64 (t : Int)] 3)) u9 (bs.set t true) (fr :: rest)) := HR2.out.alloc _
              have HLE : Hid ((fr :: rest).length ≤ 3000000) := by
                have := HRM.out
                show rest.length + 1 ≤ 3000000
                omega
              by_cases hm1 : miss = 1
              · have h1m : ((miss : Int) - 1 == 0) = true := by subst hm1; rfl
                have HFU : Hid (ReIs Nx fr last (bs.set t true)) := HF2.out.full (by have := HRM.out; have := HMM.out; rw [List.length_append]; simp; omega)
                have HM1 := hide hm1
                clear hm1
                go_wp2_with (refine wpList_append_row rfl (.tmp 50) (.tmp 52) 29 rfl w.heap.size 3 (.int .i64 0) 1 8 Try.underlying29 Try.info3 rfl (by omega) _ _ _ _ 1 _ rfl rfl HR3.out.list HRW.out rfl (by simp [Value.oneCell']) (by have := HLE.out; omega) (by have := HLE.out; omega) HR3.out.below.size ?_; intro v7 w7 ho7 hg7; have HR7 := hide (HR3.out.grow ho7 hg7); clear ho7 hg7)
                rw [Exit.jumps_ret]
                go_ret
                exact ⟨_, bs.set t true, rfl, HR7.out.seen, HFU.out, HR7.out.below⟩
              · have h1m : ((miss : Int) - 1 == 0) = false := beq_eq_false_iff_ne.2 (by omega)
                have HM1 : Hid (2 ≤ miss) := by show 2 ≤ miss; omega
                have hm2 := HM1.out
                clear hm1
                go_wp2_with (refine wpList_append_row rfl (.tmp 50) (.tmp 52) 29 rfl w.heap.size 3 (.int .i64 0) 1 8 Try.underlying29 Try.info3 rfl (by omega) _ _ _ _ 1 _ rfl rfl HR3.out.list HRW.out rfl (by simp [Value.oneCell']) (by have := HLE.out; omega) (by have := HLE.out; omega) HR3.out.below.size ?_; intro v7 w7 ho7 hg7; have HR7 := hide (HR3.out.grow ho7 hg7); clear ho7 hg7)
                go_roundw
                case rel =>
                  refine ⟨q + 1, miss - 1, bs.set t true, rest ++ [t], by go_num, by omega, ?_, by omega, ?_, ?_, HR7.out, HF2.out, HG2.out, HX2.out, HXR2.out, HD2.out⟩
                  · congr 1
                    omega
                  · have := HRM.out; rw [List.length_append]; simp; omega
                  · have := HKR.out; rw [List.length_append]; simp; omega
                case measure => simp [intOf]; omega
        · have HG2 : Hid (Gone Nx fr last rest (k + 1)) := HG.out.next HX.out HL.out (fun b hb hle => HD.out b (by rw [List.take_of_length_le (by rw [HNL.out]; omega)]; exact hb) hle)
          have hkM : k < M + 1 := by have := HKR.out; have := HRM.out; omega
          have hkB : k ≤ 3000000 := by omega
          clear HG HX HXR HD
          go_wp2
          go_roundw
          case rel => exact ⟨k + 1, miss, bs, rest, by go_num, HKR.out, rfl, hmi, HRM.out, HR.out, HF.out, HG2.out⟩
          case measure => simp [intOf]; omega
    · have HRE : Hid (ReIs Nx fr last bs) := HF.out.done (by
        have h := HG.out
        have : k = rest.length + 1 := by have := HLN.out; omega
        rw [this] at h
        exact h)
      go_wp2
      rw [Exit.jumps_ret]
      go_ret
      exact ⟨_, bs, rfl, HR.out.seen, HRE.out, HR.out.below⟩
end Go.Proofs.Ytaoghggbcbpapaa
