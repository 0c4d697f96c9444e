/- A want put at a place of a row of the call's own; a list put in its order. -/
import Derived.Test.YtffjdjbjkjefoaaRas
namespace Go.Proofs.Ytffjdjbjkjefoaa
open Go.RowKit Go.WideAt
set_option linter.unusedVariables false
set_option linter.unusedSimpArgs false

abbrev Wn := List UInt8 × Int
theorem flatW_cons (x : Wn) (L : List Wn) : flatW (x :: L) = scell x.1 :: .int .i64 x.2 :: flatW L := rfl
theorem flatW_app (a b : List Wn) : flatW (a ++ b) = flatW a ++ flatW b := by unfold flatW; rw [List.flatMap_append]
theorem flatW_take : ∀ (G : List Wn) (k : Nat), (flatW G).take (k * 2) = flatW (G.take k)
  | [], k => by simp [flatW]
  | x :: G, 0 => by simp [flatW]
  | x :: G, k + 1 => by
    rw [flatW_cons, show (k + 1) * 2 = k * 2 + 1 + 1 by omega, List.take_succ_cons, List.take_succ_cons, flatW_take G k, List.take_succ_cons, flatW_cons]
theorem flatW_drop : ∀ (G : List Wn) (k : Nat), (flatW G).drop (k * 2) = flatW (G.drop k)
  | [], k => by simp [flatW]
  | x :: G, 0 => by simp
  | x :: G, k + 1 => by
    rw [flatW_cons, show (k + 1) * 2 = k * 2 + 1 + 1 by omega, List.drop_succ_cons, List.drop_succ_cons, flatW_drop G k, List.drop_succ_cons]
set_option maxRecDepth 100000 in
theorem own_put {w : World} {base g c n : Nat} {G : List Wn} (h : w.ownsRow base 50 2 (.slice (some ⟨g, 0, none⟩) n c) n (flatW G)) (hG : G.length = n) {k : Nat} (hk : k < n) (x : Wn) :
    ∃ w', (Instr.storeAt 50 (.pointer (some ⟨g, k * 2, none⟩)) (.agg #[scell x.1, .int .i64 x.2])).run Try.prog w = .ok () w' ∧ w'.ownsRow base 50 2 (.slice (some ⟨g, 0, none⟩) n c) n (flatW (G.set k x)) ∧ w.grownBy w' (some g) := by
  rcases own_of h with ⟨e, _, _⟩ | ⟨g', cap, cur, e, h1, h2, h3, h4, h5, h6⟩
  · cases e
  · injection e with e1 e2 e3
    injection e1 with e1
    injection e1 with e1
    subst e1 e3
    have hfit : k * 2 + [scell x.1, Value.int .i64 x.2].length ≤ cur.size := by simp; omega
    have hr := run_storeAt_in (P := Try.prog) w g (k * 2) 50 50 cur [scell x.1, .int .i64 x.2] h2 hfit (by kernel_rfl) (by intro v hv; simp at hv; rcases hv with rfl | rfl <;> rfl)
    have hcl : cur.toList.length = c * 2 := by rw [Array.length_toList, h5]
    have hlen : (cur.toList.take (k * 2) ++ [scell x.1, Value.int .i64 x.2] ++ cur.toList.drop (k * 2 + [scell x.1, Value.int .i64 x.2].length)).length = c * 2 := by
      simp only [List.length_append, List.length_take, List.length_drop, List.length_cons, List.length_nil, hcl]
      omega
    refine ⟨_, hr, ⟨?_, .inr ⟨g, c, _, rfl, h1, setRow_heap _ _ _ _ _ _ h2, h3, h4, ?_, ?_⟩⟩, ⟨rfl, rfl, rfl, ?_, fun j hj hne => ?_⟩⟩
    · rw [flatW_len, List.length_set, hG]
    · simpa using hlen
    · have e1 : (flatW (G.set k x)) = flatW (G.take k) ++ [scell x.1, .int .i64 x.2] ++ flatW (G.drop (k + 1)) := by
        rw [List.set_eq_take_append_cons_drop, if_pos (by omega), flatW_app, flatW_cons]
        simp
      have e2 : cur.toList.take (k * 2) = flatW (G.take k) := by
        rw [← flatW_take, ← h6, List.take_take, Nat.min_eq_left (by omega)]
      have e3 : (cur.toList.drop (k * 2 + 2)).take (n * 2 - (k * 2 + 2)) = flatW (G.drop (k + 1)) := by
        rw [← flatW_drop, ← h6, List.drop_take, show (k + 1) * 2 = k * 2 + 2 by omega]
      rw [e1]
      show ((cur.toList.take (k * 2) ++ [scell x.1, Value.int .i64 x.2]) ++ cur.toList.drop (k * 2 + 2)).take (n * 2) = _
      rw [List.take_append, List.take_of_length_le (by simp; omega), ← e3, e2]
      congr 1
      congr 1
      rw [List.length_append, flatW_len, List.length_take]
      simp
      omega
    · simp [World.setRow]
    · exact setRow_other _ _ _ _ (fun e => hne (by rw [e]))
end Go.Proofs.Ytffjdjbjkjefoaa
