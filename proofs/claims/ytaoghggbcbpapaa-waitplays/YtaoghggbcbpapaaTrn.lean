/- turned: the edges the other way round. -/
import Derived.Test.YtaoghggbcbpapaaNum
namespace Go.Proofs.Ytaoghggbcbpapaa
open Go.RowKit
set_option linter.unusedVariables false
set_option linter.unusedSimpArgs false

def turn (E : List (Int × Int)) : List (Int × Int) := E.map fun e => (e.2, e.1)
theorem turn_snoc (E : List (Int × Int)) (a b : Int) : turn (E ++ [(a, b)]) = turn E ++ [(b, a)] := by simp [turn]
theorem turn_len (E : List (Int × Int)) : (turn E).length = E.length := by simp [turn]
theorem mem_turn {E : List (Int × Int)} {a b : Int} : (a, b) ∈ turn E ↔ (b, a) ∈ E := by
  unfold turn
  rw [List.mem_map]
  constructor
  · rintro ⟨⟨x, y⟩, h, e⟩; simp at e; rw [← e.1, ← e.2]; exact h
  · intro h; exact ⟨(b, a), h, rfl⟩
theorem rch_turn {E : List (Int × Int)} {a b : Int} : Rch (Stp (turn E)) a b ↔ Rch (Stp E) b a := by
  constructor
  · intro h; exact h.turn.mono (fun x y s => mem_turn.1 s)
  · intro h; exact h.turn.mono (fun x y s => mem_turn.2 s)
theorem run_build24 (w : World) (a b : Int) : (Instr.build 24 #[(0, .int .i64 a), (1, .int .i64 b)]).run Try.prog w = .ok (.agg #[.int .i64 a, .int .i64 b]) w := by kernel_rfl
theorem run_buildS24 (w : World) (a b : Int) : (Instr.buildSlice 22 1 #[(0, .agg #[.int .i64 a, .int .i64 b])]).run Try.prog w = .ok (.slice (some ⟨w.heap.size, 0, none⟩) 1 1) (w.alloc (.cells #[.int .i64 a, .int .i64 b] 24)) := by kernel_rfl
set_option maxHeartbeats 1000000 in
set_option maxRecDepth 100000 in
theorem turned_any {w : World} {a : Option Addr} {c : Nat} {E : List (Int × Int)} (hE : EdgesAt w a E) :
    Calls Try.prog 23 #[.slice a E.length c] w fun e w' => ∃ v, e = .returned v ∧ w'.ownsRow w.heap.size 24 2 v (turn E).length (ecells (turn E)) ∧ Below w.heap.size w w' := by
  have HE := hide hE
  have hlen := hE.len
  obtain ⟨n, hn⟩ : ∃ n, E.length = n := ⟨_, rfl⟩
  have HN := hide hn
  rw [hn] at hlen ⊢
  clear hn hE
  go_enter Try.func23, Try.ntmps23
  go_wp2
  go_loopw [3, 8] (fun v i wr => ∃ (k : Nat) (F : List (Int × Int)), k ≤ n ∧ i = .int .i64 k ∧ F = turn (E.take k) ∧ wr.ownsRow w.heap.size 24 2 v F.length (ecells F) ∧ Below w.heap.size w wr) (fun _ i _ => n - (intOf i).toNat)
  case atStart => exact ⟨0, [], by omega, rfl, by simp [turn], ⟨rfl, .inl ⟨rfl, rfl⟩⟩, Below.refl _ _⟩
  case round =>
    obtain ⟨k, F, hk, rfl, hF, hrow, hB⟩ := hrel
    have hFl : F.length = k := by rw [hF, turn_len, List.length_take, HN.out]; omega
    have HF := hide hF
    have HFL := hide hFl
    clear hF hFl
    by_cases hlt : k < n
    · obtain ⟨⟨p, q⟩, hx⟩ : ∃ x, E[k]? = some x := ⟨_, List.getElem?_eq_getElem (by rw [HN.out]; exact hlt)⟩
      obtain ⟨b, o, hab, hbl, hrg⟩ := HE.out.at' k _ hx
      subst hab
      have HRG : Hid (wr.rangeAt b (o + k * 2) [.int .i64 p, .int .i64 q]) := fun j v hv => (hB.cell (p := ⟨b, o + k * 2 + j, none⟩) hbl).trans (hrg j v hv)
      have HTK : Hid (E.take (k + 1) = E.take k ++ [(p, q)]) := take_snoc hx
      have HX := hide hx
      have HB := hide hB
      have H0HRX := hide hrow
      clear hB hrg hx hrow
      go_upto_region 5 with (refine wpList_load_mid rfl 24 _ rfl b (o + k * 2) rfl [.int .i64 p, .int .i64 q] _ HRG.out Try.underlying24 rfl Try.size24 ?_)
      generalize hx1 : wr.alloc _ = x1
      have hGx : x1.heap[wr.heap.size]? = some (.cells #[.int .i64 p, .int .i64 q] 24 (0, 0)) := by rw [← hx1]; exact heap_alloc_new _ _
      have hBx : Below wr.heap.size wr x1 := by rw [← hx1]; exact (Below.refl _ _).alloc (Nat.le_refl _) _
      have HRX := hide (owns_below H0HRX.out hBx (Nat.le_refl _))
      have HBX : Hid (Below w.heap.size w x1) := HB.out.trans (hBx.mono HB.out.size)
      have hgl : wr.heap.size < x1.heap.size := lt_of_heap hGx
      clear hx1 hBx HRG HB H0HRX
      generalize wr.heap.size = g at *
      have c0 : x1.cell? ⟨g, 0, none⟩ = some (.int .i64 p) := by rw [cell_row hGx]; rfl
      have c1 : x1.cell? ⟨g, 1, none⟩ = some (.int .i64 q) := by rw [cell_row hGx]; rfl
      clear hGx
      have HR2 := hide (row_new x1 24 [.int .i64 q, .int .i64 p] 1 (by omega))
      have HB2 : Hid (Below w.heap.size w (x1.alloc (.cells #[.int .i64 q, .int .i64 p] 24))) := HBX.out.trans ((Below.refl _ x1).alloc HBX.out.size _)
      have HO2 : Hid ((x1.alloc (.cells #[.int .i64 q, .int .i64 p] 24)).ownsRow w.heap.size 24 2 u3 F.length (ecells F)) := owns_below HRX.out ((Below.refl _ x1).alloc (Nat.le_refl _) _) (Nat.le_refl _)
      have hb1 := run_build24
      have hb2 := run_buildS24
      go_wp2_with (refine wpList_append_row rfl (.tmp 12) (.tmp 18) 22 rfl w.heap.size 24 (.agg #[.int .i64 0, .int .i64 0]) 2 16 Try.underlying22 Try.info24 rfl (by omega) _ _ _ _ 1 _ rfl rfl HO2.out HR2.out rfl (by simp [Value.oneCell']) (by have := HFL.out; omega) (by have := HFL.out; omega) HB2.out.size ?_; intro v7 w7 ho7 hg7)
      go_roundw
      case rel =>
        refine ⟨k + 1, F ++ [(q, p)], by omega, by go_num, by rw [HTK.out, turn_snoc, HF.out], ?_, HB2.out.grown hg7 HB2.out.size (fun k hk => (HO2.out.lt k hk).1)⟩
        rw [ecells_snoc, List.length_append]
        exact ho7
      case measure => simp [intOf]; omega
    · have HG : Hid (F = turn E) := by
        show _ = _
        rw [HF.out, List.take_of_length_le (by rw [HN.out]; omega)]
      have HROW := hide hrow
      have HB := hide hB
      clear hrow hB
      go_wp2
      go_ret
      exact ⟨_, rfl, by rw [← HG.out]; exact HROW.out, HB.out⟩
end Go.Proofs.Ytaoghggbcbpapaa
