/- Who holds something on a name, the document's way; two lists of ints. -/
import Derived.Test.YtffjdjbjkjefoaaRtb
namespace Go.Proofs.Ytffjdjbjkjefoaa
open Go.RowKit Go.WideAt
set_option linter.unusedVariables false
set_option linter.unusedSimpArgs false

structure RhIs (hs : List Ht) (s : List UInt8) (A : List Int) : Prop where
  up : A.Pairwise (· < ·)
  iff : ∀ x, x ∈ A ↔ ∃ h ∈ hs, h.2.1 = s ∧ h.1 = x
  len : A.length ≤ hs.length
theorem RhIs.nil (s : List UInt8) : RhIs [] s [] := ⟨List.Pairwise.nil, by simp, by simp⟩
theorem RhIs.put {hs : List Ht} {s : List UInt8} {A A' : List Int} {x : Ht} (h : RhIs hs s A) (hx : x.2.1 = s) (hp : PutIs A x.1 A') : RhIs (hs ++ [x]) s A' := by
  refine ⟨hp.rise, fun y => ?_, by have := hp.len; have := h.len; simp; omega⟩
  rw [hp.just, h.iff]
  constructor
  · rintro (rfl | ⟨z, hz, h1⟩)
    · exact ⟨x, by simp, hx, rfl⟩
    · exact ⟨z, by simp [hz], h1⟩
  · rintro ⟨z, hz, h1, h2⟩
    rcases List.mem_append.1 hz with hz | hz
    · exact .inr ⟨z, hz, h1, h2⟩
    · rw [List.mem_singleton] at hz
      subst hz
      exact .inl h2.symm
theorem RhIs.skip {hs : List Ht} {s : List UInt8} {A : List Int} {x : Ht} (h : RhIs hs s A) (hx : x.2.1 ≠ s) : RhIs (hs ++ [x]) s A := by
  refine ⟨h.up, fun y => ?_, by have := h.len; simp; omega⟩
  rw [h.iff]
  constructor
  · rintro ⟨z, hz, h1⟩
    exact ⟨z, by simp [hz], h1⟩
  · rintro ⟨z, hz, h1, h2⟩
    rcases List.mem_append.1 hz with hz | hz
    · exact ⟨z, hz, h1, h2⟩
    · rw [List.mem_singleton] at hz
      subst hz
      exact absurd h1 hx
set_option maxRecDepth 100000 in
set_option maxHeartbeats 2000000 in
theorem rholders_any {w : World} {base rt : Nat} {v : Value} {hs : List Ht} (h : RtAt w base rt v hs) (hl : hs.length ≤ 1000000000) (s : List UInt8) :
    Calls Try.prog 25 #[.pointer (some ⟨rt, 0, none⟩), scell s] w fun e w' => ∃ v A, e = .returned v ∧ w'.ownsRow w.heap.size 3 1 v (A : List Int).length (A.map icell) ∧ RhIs hs s A ∧ Below w.heap.size w w' := by
  obtain ⟨ao, c, rfl⟩ := owns_len h.own
  have HR := hide h
  have c0' := h.cell0
  have HC0 : Hid (∀ W, Below w.heap.size w W → W.cell? ⟨rt, 0, none⟩ = some (.slice ao hs.length c)) := fun W hW => (hW.cell (p := ⟨rt, 0, none⟩) (World.block_lt_of_cell? _ _ c0')).trans c0'
  clear h c0'
  obtain ⟨n, hn⟩ : ∃ n, hs.length = n := ⟨_, rfl⟩
  have HN := hide hn
  rw [hn] at hl HC0
  have HC : Hid (∀ i x, hs[i]? = some x → ∃ g, ao = some ⟨g, 0, none⟩ ∧ w.cell? ⟨g, i * 3, none⟩ = some (.int .i64 x.1) ∧ w.cell? ⟨g, i * 3 + 1, none⟩ = some (scell x.2.1) ∧ w.cell? ⟨g, i * 3 + 2, none⟩ = some (.int .i64 x.2.2)) := fun i x hx => by
    obtain ⟨g, c', e, h1⟩ := HR.out.get hx
    injection e with e1
    exact ⟨g, e1, h1⟩
  clear hn HR
  go_enter Try.func25, Try.ntmps25
  go_upto_region 3 with fail
  go_loopw [5, 6] (fun u i wr => ∃ (k : Nat) (A : List Int), k ≤ n ∧ i = .int .i64 (k : Int) ∧ RhIs (hs.take k) s A ∧ wr.ownsRow w.heap.size 3 1 u A.length (A.map icell) ∧ Below w.heap.size w wr) (fun _ i _ => n - (intOf i).toNat)
  case atStart => exact ⟨0, [], by omega, rfl, RhIs.nil s, ⟨rfl, .inl ⟨rfl, rfl⟩⟩, Below.refl _ _⟩
  case round =>
    obtain ⟨k, A, hk, rfl, hA, hr, hB⟩ := hrel
    have HA := hide hA
    have HRW := hide hr
    have HB := hide hB
    have c0 := HC0.out _ hB
    clear hA hr hB
    by_cases hlt : k < n
    · obtain ⟨x, hx⟩ : ∃ x, hs[k]? = some x := ⟨_, List.getElem?_eq_getElem (by rw [HN.out]; exact hlt)⟩
      obtain ⟨g, hao, d1, d2, d3⟩ := HC.out k x hx
      subst hao
      have c1 := (HB.out.cell (p := ⟨g, k * 3, none⟩) (World.block_lt_of_cell? _ _ d1)).trans d1
      have c2 := (HB.out.cell (p := ⟨g, k * 3 + 1, none⟩) (World.block_lt_of_cell? _ _ d2)).trans d2
      have HTK := hide (take_snoc hx)
      clear hx d1 d2 d3
      have hbs := beq_str x.2.1 s
      by_cases ht : x.2.1 = s
      · rw [decide_eq_true ht] at hbs
        have HP := hide (put_any (Row.of_owns HRW.out) (by have := HA.out.len; rw [List.length_take] at this; omega) HA.out.up x.1)
        go_wp2_with (go_at_call 40; refine HP.out.mono ?_; rintro e x4 ⟨v4, A4, rfl, hr4, hp4, hb4⟩; have HR4 := hide hr4; have HP4 := hide hp4; have HB4 := hide hb4; clear hr4 hp4 hb4)
        refine ⟨⟨k + 1, A4, by omega, by go_num, by rw [HTK.out]; exact HA.out.put ht HP4.out, owns_mono HR4.out HB.out.size, HB.out.trans (HB4.out.mono HB.out.size)⟩, ?_⟩
        simp [intOf]
        omega
      · rw [decide_eq_false ht] at hbs
        go_wp2
        refine ⟨⟨k + 1, A, by omega, by go_num, by rw [HTK.out]; exact HA.out.skip ht, HRW.out, HB.out⟩, ?_⟩
        simp [intOf]
        omega
    · obtain rfl : k = n := by omega
      have hd : hs.take k = hs := List.take_of_length_le (by rw [HN.out]; exact Nat.le_refl _)
      rw [hd] at HA
      go_wp2
      go_ret
      exact ⟨_, A, rfl, HRW.out, HA.out, HB.out⟩
end Go.Proofs.Ytffjdjbjkjefoaa
