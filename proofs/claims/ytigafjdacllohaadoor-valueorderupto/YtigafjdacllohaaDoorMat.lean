/- reckon; known, first: what a list of values is. -/
import Derived.Test.YtigafjdacllohaaDoorPrd
import Derived.Test.YtigafjdacllohaaDoorTxt
namespace Go.Proofs.YtigafjdacllohaaDoor
open Go.RowKit
set_option linter.unusedVariables false
set_option linter.unusedSimpArgs false
set_option maxRecDepth 100000

def zOf (op a b : Int) : Int := if op = 18 then a + b else if op = 19 then a - b else if op = 20 then a * b else if op = 22 then a.tmod b else a.tdiv b
def rckV (op a b : Int) : Vl := if (op = 21 ∨ op = 22) ∧ b = 0 then Vl.zero else numV (zOf op a b)
def rckE (op a b : Int) : Int := if (op = 21 ∨ op = 22) ∧ b = 0 then 162 else numE (zOf op a b)
theorem mul_wide (a b : Int) (ha : small a) (hb : small b) : wide127 (a * b) := by
  have h1 : (a * b).natAbs ≤ 9223372036854775808 * 9223372036854775808 := by
    rw [Int.natAbs_mul]
    unfold small at ha hb
    exact Nat.mul_le_mul (by omega) (by omega)
  unfold wide127
  omega
theorem zero_r (w : World) : Box (w.alloc (.cells #[.int .i64 0, .int .i64 0, .string { data := #[] }, .bool false] 23)) w.heap.size Vl.zero := heap_alloc_new _ _
theorem tdiv_wide (a b : Int) (ha : small a) : wide127 (a.tdiv b) := by
  have h2 : (a.tdiv b).natAbs ≤ a.natAbs := by rw [Int.natAbs_tdiv]; exact Nat.div_le_self _ _
  unfold wide127
  unfold small at ha
  omega
theorem num_tmod (a b : Int) (ha : small a) : numV (a.tmod b) = nV (a.tmod b) ∧ numE (a.tmod b) = 0 := by
  have h : fitsI (a.tmod b) = true := decide_eq_true (tmod_small a b ha)
  unfold numV numE
  rw [if_pos h, if_pos h]
  exact ⟨rfl, rfl⟩
theorem thenW {a b c : World} (h : Below a.heap.size a b) (k : Below b.heap.size b c) : Below a.heap.size a c := h.trans (k.mono h.size)
set_option maxHeartbeats 4000000 in
theorem reckon_any (op a b : Int) (h : op = 18 ∨ op = 19 ∨ op = 20 ∨ op = 21 ∨ op = 22) (ha : small a) (hb : small b) (w : World) : Calls Tryd.prog 43 #[.int .i64 op, .int .i64 a, .int .i64 b] w fun e w' => e = .returned (telling (rckV op a b) (rckE op a b)) ∧ Below w.heap.size w w' := by
  have HR := hide (zero_r w)
  have HAL : Hid (Below w.heap.size w (w.alloc (.cells #[.int .i64 0, .int .i64 0, .string { data := #[] }, .bool false] 23))) := (Below.refl _ w).alloc (Nat.le_refl _) _
  have HWA : Hid (∀ w, Calls Tryd.prog 59 #[.int .i64 a] w fun e w' => e = .returned (wideV a) ∧ Below w.heap.size w w') := fun w => widen_any a ha w
  have HWB : Hid (∀ w, Calls Tryd.prog 59 #[.int .i64 b] w fun e w' => e = .returned (wideV b) ∧ Below w.heap.size w w') := fun w => widen_any b hb w
  rcases h with rfl | rfl | rfl | rfl | rfl
  · have HT : Hid (telling (rckV 18 a b) (rckE 18 a b) = telling (numV (a + b)) (numE (a + b))) := rfl
    have HNU : Hid (∀ w, Calls Tryd.prog 60 #[wideV (a + b)] w fun e w' => e = .returned (.tuple #[.agg #[.int .i64 (numV (a + b)).ty, .int .i64 (numV (a + b)).n, .string (strOf (numV (a + b)).t), .bool (numV (a + b)).b], .int .i64 (numE (a + b))]) ∧ Below w.heap.size w w') := fun w => num_any (a + b) (by unfold wide127; unfold small at ha hb; omega) w
    have HMI : Hid (∀ w, Calls Tryd.prog 58 #[wideV a, wideV b] w fun e w' => e = .returned (wideV (a + b)) ∧ Below w.heap.size w w') := fun w => plus_any a b w
    generalize wideV (a + b) = vz at *
    generalize wideV a = va at *
    generalize wideV b = vb at *
    generalize numV (a + b) = V at *
    generalize numE (a + b) = er at *
    clear ha hb
    go_enter Tryd.func43, Tryd.ntmps43
    go_wp2_with (first
      | (have _t := HB1; go_at_call 59; refine (HWB.out _).mono ?_; rintro e w2 ⟨rfl, hb2⟩; have HB2 := hide hb2; clear hb2)
      | (go_at_call 59; refine (HWA.out _).mono ?_; rintro e w1 ⟨rfl, hb1⟩; have HB1 := hide hb1; clear hb1)
      | (go_at_call 58; refine (HMI.out _).mono ?_; rintro e w3 ⟨rfl, hb3⟩; have HB3 := hide hb3; clear hb3)
      | (go_at_call 60; refine (HNU.out _).mono ?_; rintro e w4 ⟨rfl, hb4⟩; have HB4 := hide hb4; clear hb4)
      | (refine wpList_store_val rfl (.tmp 6) (.tmp 17) rfl rfl w.heap.size Vl.zero V rfl rfl ((((HR.out.belowW HB1.out).belowW HB2.out).belowW HB3.out).belowW HB4.out) ?_))
    refine bodyPost_ret (v := .tuple #[.agg #[.int .i64 V.ty, .int .i64 V.n, .string (strOf V.t), .bool V.b], .int .i64 er]) (results_ct Tryd.results43 _ _ w.heap.size 23 _ (0, 0) _ rfl (Box.after ((((HR.out.belowW HB1.out).belowW HB2.out).belowW HB3.out).belowW HB4.out) V) Tryd.underlying23 rfl Tryd.size23) rfl ?_
    rw [HT.out]
    exact ⟨rfl, below_setRow (thenW (thenW (thenW (thenW HAL.out HB1.out) HB2.out) HB3.out) HB4.out) (Nat.le_refl _) _⟩
  · have HT : Hid (telling (rckV 19 a b) (rckE 19 a b) = telling (numV (a - b)) (numE (a - b))) := rfl
    have HNU : Hid (∀ w, Calls Tryd.prog 60 #[wideV (a - b)] w fun e w' => e = .returned (.tuple #[.agg #[.int .i64 (numV (a - b)).ty, .int .i64 (numV (a - b)).n, .string (strOf (numV (a - b)).t), .bool (numV (a - b)).b], .int .i64 (numE (a - b))]) ∧ Below w.heap.size w w') := fun w => num_any (a - b) (by unfold wide127; unfold small at ha hb; omega) w
    have HMI : Hid (∀ w, Calls Tryd.prog 72 #[wideV a, wideV b] w fun e w' => e = .returned (wideV (a - b)) ∧ Below w.heap.size w w') := fun w => minus_any a b w
    generalize wideV (a - b) = vz at *
    generalize wideV a = va at *
    generalize wideV b = vb at *
    generalize numV (a - b) = V at *
    generalize numE (a - b) = er at *
    clear ha hb
    go_enter Tryd.func43, Tryd.ntmps43
    go_wp2_with (first
      | (have _t := HB1; go_at_call 59; refine (HWB.out _).mono ?_; rintro e w2 ⟨rfl, hb2⟩; have HB2 := hide hb2; clear hb2)
      | (go_at_call 59; refine (HWA.out _).mono ?_; rintro e w1 ⟨rfl, hb1⟩; have HB1 := hide hb1; clear hb1)
      | (go_at_call 72; refine (HMI.out _).mono ?_; rintro e w3 ⟨rfl, hb3⟩; have HB3 := hide hb3; clear hb3)
      | (go_at_call 60; refine (HNU.out _).mono ?_; rintro e w4 ⟨rfl, hb4⟩; have HB4 := hide hb4; clear hb4)
      | (refine wpList_store_val rfl (.tmp 6) (.tmp 27) rfl rfl w.heap.size Vl.zero V rfl rfl ((((HR.out.belowW HB1.out).belowW HB2.out).belowW HB3.out).belowW HB4.out) ?_))
    refine bodyPost_ret (v := .tuple #[.agg #[.int .i64 V.ty, .int .i64 V.n, .string (strOf V.t), .bool V.b], .int .i64 er]) (results_ct Tryd.results43 _ _ w.heap.size 23 _ (0, 0) _ rfl (Box.after ((((HR.out.belowW HB1.out).belowW HB2.out).belowW HB3.out).belowW HB4.out) V) Tryd.underlying23 rfl Tryd.size23) rfl ?_
    rw [HT.out]
    exact ⟨rfl, below_setRow (thenW (thenW (thenW (thenW HAL.out HB1.out) HB2.out) HB3.out) HB4.out) (Nat.le_refl _) _⟩
  · have HT : Hid (telling (rckV 20 a b) (rckE 20 a b) = telling (numV (a * b)) (numE (a * b))) := rfl
    have HNU : Hid (∀ w, Calls Tryd.prog 60 #[wideV (a * b)] w fun e w' => e = .returned (.tuple #[.agg #[.int .i64 (numV (a * b)).ty, .int .i64 (numV (a * b)).n, .string (strOf (numV (a * b)).t), .bool (numV (a * b)).b], .int .i64 (numE (a * b))]) ∧ Below w.heap.size w w') := fun w => num_any (a * b) (mul_wide a b ha hb) w
    have HMI : Hid (∀ w, Calls Tryd.prog 73 #[.int .i64 a, .int .i64 b] w fun e w' => e = .returned (wideV (a * b)) ∧ Below w.heap.size w w') := fun w => product_any a b ha hb w
    generalize wideV (a * b) = vz at *
    generalize wideV a = va at *
    generalize wideV b = vb at *
    generalize numV (a * b) = V at *
    generalize numE (a * b) = er at *
    clear ha hb
    go_enter Tryd.func43, Tryd.ntmps43
    go_wp2_with (first
      | (go_at_call 73; refine (HMI.out _).mono ?_; rintro e w1 ⟨rfl, hb1⟩; have HB1 := hide hb1; clear hb1)
      | (go_at_call 60; refine (HNU.out _).mono ?_; rintro e w2 ⟨rfl, hb2⟩; have HB2 := hide hb2; clear hb2)
      | (refine wpList_store_val rfl (.tmp 6) (.tmp 35) rfl rfl w.heap.size Vl.zero V rfl rfl ((HR.out.belowW HB1.out).belowW HB2.out) ?_))
    refine bodyPost_ret (v := .tuple #[.agg #[.int .i64 V.ty, .int .i64 V.n, .string (strOf V.t), .bool V.b], .int .i64 er]) (results_ct Tryd.results43 _ _ w.heap.size 23 _ (0, 0) _ rfl (Box.after ((HR.out.belowW HB1.out).belowW HB2.out) V) Tryd.underlying23 rfl Tryd.size23) rfl ?_
    rw [HT.out]
    exact ⟨rfl, below_setRow (thenW (thenW HAL.out HB1.out) HB2.out) (Nat.le_refl _) _⟩
  · by_cases h0 : b = 0
    · have HT : Hid (telling (rckV 21 a b) (rckE 21 a b) = telling Vl.zero 162) := by
        have e1 : rckV 21 a b = Vl.zero := if_pos ⟨by omega, h0⟩
        have e2 : rckE 21 a b = 162 := if_pos ⟨by omega, h0⟩
        rw [Hid, e1, e2]
      subst h0
      clear ha hb
      go_enter Tryd.func43, Tryd.ntmps43
      go_wp2
      refine bodyPost_ret (v := .tuple #[.agg #[.int .i64 0, .int .i64 0, .string { data := #[] }, .bool false], .int .i64 162]) (results_ct Tryd.results43 _ _ w.heap.size 23 _ (0, 0) _ rfl HR.out Tryd.underlying23 rfl Tryd.size23) rfl ?_
      rw [HT.out]
      exact ⟨rfl, HAL.out⟩
    · have k0 : (b == 0) = false := beq_eq_false_iff_ne.2 h0
      have HT : Hid (telling (rckV 21 a b) (rckE 21 a b) = telling (numV (a.tdiv b)) (numE (a.tdiv b))) := by
        have e1 : rckV 21 a b = numV (a.tdiv b) := if_neg (fun h => h0 h.2)
        have e2 : rckE 21 a b = numE (a.tdiv b) := if_neg (fun h => h0 h.2)
        rw [Hid, e1, e2]
      have HNU : Hid (∀ w, Calls Tryd.prog 60 #[wideV (a.tdiv b)] w fun e w' => e = .returned (.tuple #[.agg #[.int .i64 (numV (a.tdiv b)).ty, .int .i64 (numV (a.tdiv b)).n, .string (strOf (numV (a.tdiv b)).t), .bool (numV (a.tdiv b)).b], .int .i64 (numE (a.tdiv b))]) ∧ Below w.heap.size w w') := fun w => num_any (a.tdiv b) (by have := tdiv_wide a b ha; exact this) w
      have HMI : Hid (∀ w, Calls Tryd.prog 74 #[.int .i64 a, .int .i64 b] w fun e w' => e = .returned (wideV (a.tdiv b)) ∧ Below w.heap.size w w') := fun w => quotient_any a b ha hb h0 w
      generalize wideV (a.tdiv b) = vz at *
      generalize wideV a = va at *
      generalize wideV b = vb at *
      generalize numV (a.tdiv b) = V at *
      generalize numE (a.tdiv b) = er at *
      clear ha hb h0
      go_enter Tryd.func43, Tryd.ntmps43
      go_wp2_with (first
        | (go_at_call 74; refine (HMI.out _).mono ?_; rintro e w1 ⟨rfl, hb1⟩; have HB1 := hide hb1; clear hb1)
        | (go_at_call 60; refine (HNU.out _).mono ?_; rintro e w2 ⟨rfl, hb2⟩; have HB2 := hide hb2; clear hb2)
        | (refine wpList_store_val rfl (.tmp 6) (.tmp 50) rfl rfl w.heap.size Vl.zero V rfl rfl ((HR.out.belowW HB1.out).belowW HB2.out) ?_))
      refine bodyPost_ret (v := .tuple #[.agg #[.int .i64 V.ty, .int .i64 V.n, .string (strOf V.t), .bool V.b], .int .i64 er]) (results_ct Tryd.results43 _ _ w.heap.size 23 _ (0, 0) _ rfl (Box.after ((HR.out.belowW HB1.out).belowW HB2.out) V) Tryd.underlying23 rfl Tryd.size23) rfl ?_
      rw [HT.out]
      exact ⟨rfl, below_setRow (thenW (thenW HAL.out HB1.out) HB2.out) (Nat.le_refl _) _⟩
  · by_cases h0 : b = 0
    · have HT : Hid (telling (rckV 22 a b) (rckE 22 a b) = telling Vl.zero 162) := by
        have e1 : rckV 22 a b = Vl.zero := if_pos ⟨by omega, h0⟩
        have e2 : rckE 22 a b = 162 := if_pos ⟨by omega, h0⟩
        rw [Hid, e1, e2]
      subst h0
      clear ha hb
      go_enter Tryd.func43, Tryd.ntmps43
      go_wp2
      refine bodyPost_ret (v := .tuple #[.agg #[.int .i64 0, .int .i64 0, .string { data := #[] }, .bool false], .int .i64 162]) (results_ct Tryd.results43 _ _ w.heap.size 23 _ (0, 0) _ rfl HR.out Tryd.underlying23 rfl Tryd.size23) rfl ?_
      rw [HT.out]
      exact ⟨rfl, HAL.out⟩
    · have k0 : (b == 0) = false := beq_eq_false_iff_ne.2 h0
      have HT : Hid (telling (rckV 22 a b) (rckE 22 a b) = telling (nV (a.tmod b)) 0) := by
        have e1 : rckV 22 a b = nV (a.tmod b) := (if_neg (fun h => h0 h.2)).trans (num_tmod a b ha).1
        have e2 : rckE 22 a b = 0 := (if_neg (fun h => h0 h.2)).trans (num_tmod a b ha).2
        rw [Hid, e1, e2]
      have HNU : Hid (∀ w, Calls Tryd.prog 51 #[.int .i64 (a.tmod b)] w fun e w' => e = .returned (.agg #[.int .i64 1, .int .i64 (a.tmod b), .string { data := #[] }, .bool false]) ∧ Below w.heap.size w w') := fun w => number_any _ w
      clear ha hb
      go_enter Tryd.func43, Tryd.ntmps43
      go_wp2_with (first
        | (go_at_call 51; refine (HNU.out _).mono ?_; rintro e w1 ⟨rfl, hb1⟩; have HB1 := hide hb1; clear hb1)
        | (refine wpList_store_val rfl (.tmp 6) (.tmp 45) rfl rfl w.heap.size Vl.zero (nV (a.tmod b)) rfl rfl (HR.out.belowW HB1.out) ?_))
      refine bodyPost_ret (v := .tuple #[.agg #[.int .i64 1, .int .i64 (a.tmod b), .string { data := #[] }, .bool false], .int .i64 0]) (results_ct Tryd.results43 _ _ w.heap.size 23 _ (0, 0) _ rfl (Box.after (HR.out.belowW HB1.out) (nV (a.tmod b))) Tryd.underlying23 rfl Tryd.size23) rfl ?_
      rw [HT.out]
      exact ⟨rfl, below_setRow (thenW HAL.out HB1.out) (Nat.le_refl _) _⟩
/-! ### Lists of values -/
def knownA (k : Int) : Bool → List Vl → Bool
  | a, [] => a
  | a, v :: r => if v.ty = 0 then knownA k false r else if v.ty = k then knownA k a r else false
def knownE (k : Int) : List Vl → Int
  | [] => 0
  | v :: r => if v.ty = 0 then knownE k r else if v.ty = k then knownE k r else 160
def firstL : List Vl → Vl
  | [] => Vl.zero
  | v :: r => if v.ty = 0 then firstL r else v
set_option maxHeartbeats 4000000 in
theorem known_any {w : World} {v : Value} {l : List Vl} (h : VsAt w v l) (k : Int) : Calls Tryd.prog 38 #[.int .i64 k, v] w fun e w' => e = .returned (.tuple #[.bool (knownA k true l), .int .i64 (knownE k l)]) ∧ Below w.heap.size w w' := by
  obtain ⟨ao, c, rfl, hc1, hc2⟩ := h.len
  simp only [maxLen] at hc2
  have H := hide h
  have HA : Hid (∀ i a, i < l.length → knownA k a (l.drop i) = if (l.getD i Vl.zero).ty = 0 then knownA k false (l.drop (i + 1)) else if (l.getD i Vl.zero).ty = k then knownA k a (l.drop (i + 1)) else false) := fun i a hi => by
    have e : l.drop i = l.getD i Vl.zero :: l.drop (i + 1) := by rw [List.drop_eq_getElem_cons hi]; simp [hi]
    rw [e]; rfl
  have HE : Hid (∀ i, i < l.length → knownE k (l.drop i) = if (l.getD i Vl.zero).ty = 0 then knownE k (l.drop (i + 1)) else if (l.getD i Vl.zero).ty = k then knownE k (l.drop (i + 1)) else 160) := fun i hi => by
    have e : l.drop i = l.getD i Vl.zero :: l.drop (i + 1) := by rw [List.drop_eq_getElem_cons hi]; simp [hi]
    rw [e]; rfl
  have HN : Hid (∀ a, knownA k a (l.drop l.length) = a ∧ knownE k (l.drop l.length) = 0) := fun a => by rw [List.drop_length]; exact ⟨rfl, rfl⟩
  have HI : Hid (knownA k true (l.drop 0) = knownA k true l ∧ knownE k (l.drop 0) = knownE k l) := ⟨rfl, rfl⟩
  clear h
  generalize hL : l.length = L at *
  have HLE := hide hL
  clear hL
  go_enter Tryd.func38, Tryd.ntmps38
  go_wp2
  refine wp_scope_fwd 1 ?_
  go_wp2
  go_loopw [4, 10] (fun a i wr => ∃ (b : Bool) (j : Nat), j ≤ L ∧ i = .int .i64 (j : Int) ∧ a = .bool b ∧ knownA k b (l.drop j) = knownA k true l ∧ knownE k (l.drop j) = knownE k l ∧ Below w.heap.size w wr) (fun _ i _ => L - (intOf i).toNat)
  case atStart => exact ⟨true, 0, by omega, rfl, rfl, HI.out.1, HI.out.2, Below.refl _ _⟩
  case round =>
    obtain ⟨b, j, hj, rfl, rfl, ha, he, hbw⟩ := hrel
    have HBA := hide ha
    have HBE := hide he
    have HBW := hide hbw
    clear ha he hbw
    by_cases hlt : j < L
    · obtain ⟨g, o, hao, hC⟩ := (H.out.belowW HBW.out).get j (by rw [HLE.out]; exact hlt)
      subst hao
      obtain ⟨k0, k1, k2, k3⟩ := hC
      have HAj := hide (HA.out j b hlt)
      have HEj := hide (HE.out j hlt)
      have hgl := World.block_lt_of_cell? wr _ k0
      generalize l.getD j Vl.zero = V at *
      by_cases h0 : V.ty = 0
      · have HA2 : Hid (knownA k false (l.drop (j + 1)) = knownA k true l) := by rw [← HBA.out, HAj.out, if_pos h0]; exact rfl
        have HE2 : Hid (knownE k (l.drop (j + 1)) = knownE k l) := by rw [← HBE.out, HEj.out, if_pos h0]; exact rfl
        rw [h0] at k0
        clear h0 HAj HEj HBA HBE
        go_wp2
        go_roundw
        case rel => exact ⟨false, j + 1, by omega, by go_num, rfl, HA2.out, HE2.out, HBW.out.alloc HBW.out.size _⟩
        case measure => simp [intOf]; omega
      · by_cases h1 : V.ty = k
        · have HA2 : Hid (knownA k b (l.drop (j + 1)) = knownA k true l) := by rw [← HBA.out, HAj.out, if_neg h0, if_pos h1]; exact rfl
          have HE2 : Hid (knownE k (l.drop (j + 1)) = knownE k l) := by rw [← HBE.out, HEj.out, if_neg h0, if_pos h1]; exact rfl
          have z0 : (k == 0) = false := by rw [← h1]; exact beq_eq_false_iff_ne.2 h0
          rw [h1] at k0
          clear h0 h1 HAj HEj HBA HBE
          go_wp2
          go_roundw
          case rel => exact ⟨b, j + 1, by omega, by go_num, rfl, HA2.out, HE2.out, HBW.out.alloc HBW.out.size _⟩
          case measure => simp [intOf]; omega
        · have HA2 : Hid (false = knownA k true l) := by rw [Hid, ← HBA.out, HAj.out, if_neg h0, if_neg h1]
          have HE2 : Hid (160 = knownE k l) := by rw [Hid, ← HBE.out, HEj.out, if_neg h0, if_neg h1]
          have z0 : (V.ty == 0) = false := beq_eq_false_iff_ne.2 h0
          have z1 : (V.ty == k) = false := beq_eq_false_iff_ne.2 h1
          clear h0 h1 HAj HEj HBA HBE
          go_wp2
          go_step3
          refine ⟨_, rfl, ?_⟩
          go_wp2
          rw [Exit.jumps_ret]
          refine bodyPost_ret (results_tmp2 rfl _ _ _) rfl ?_
          rw [← HA2.out, ← HE2.out]
          exact ⟨rfl, HBW.out.alloc HBW.out.size _⟩
    · have hkL : j = L := by omega
      subst hkL
      have HA2 : Hid (b = knownA k true l) := by rw [Hid, ← HBA.out]; exact (HN.out b).1.symm
      have HE2 : Hid (0 = knownE k l) := by rw [Hid, ← HBE.out]; exact (HN.out b).2.symm
      clear HBA HBE HA HE HN
      go_wp2
      rw [Exit.jumps_ret]
      refine bodyPost_ret (results_tmp2 rfl _ _ _) rfl ?_
      rw [← HA2.out, ← HE2.out]
      exact ⟨rfl, HBW.out⟩
set_option maxHeartbeats 4000000 in
theorem first_any {w : World} {v : Value} {l : List Vl} (h : VsAt w v l) : Calls Tryd.prog 39 #[v] w fun e w' => e = .returned (valOf (firstL l)) ∧ Below w.heap.size w w' := by
  obtain ⟨ao, c, rfl, hc1, hc2⟩ := h.len
  simp only [maxLen] at hc2
  have HR := hide (zero_r w)
  have HAL : Hid (Below w.heap.size w (w.alloc (.cells #[.int .i64 0, .int .i64 0, .string { data := #[] }, .bool false] 23))) := (Below.refl _ w).alloc (Nat.le_refl _) _
  have H : Hid (VsAt (w.alloc (.cells #[.int .i64 0, .int .i64 0, .string { data := #[] }, .bool false] 23)) (.slice ao l.length c) l) := h.belowW HAL.out
  have HE : Hid (∀ i, i < l.length → firstL (l.drop i) = if (l.getD i Vl.zero).ty = 0 then firstL (l.drop (i + 1)) else l.getD i Vl.zero) := fun i hi => by
    have e : l.drop i = l.getD i Vl.zero :: l.drop (i + 1) := by rw [List.drop_eq_getElem_cons hi]; simp [hi]
    rw [e]; rfl
  have HN : Hid (firstL (l.drop l.length) = Vl.zero) := by rw [Hid, List.drop_length]; rfl
  have HI : Hid (firstL (l.drop 0) = firstL l) := rfl
  obtain ⟨W1, hW1⟩ : ∃ W1, w.alloc (.cells #[.int .i64 0, .int .i64 0, .string { data := #[] }, .bool false] 23) = W1 := ⟨_, rfl⟩
  rw [hW1] at HR HAL H
  clear h
  generalize hL : l.length = L at *
  have HLE := hide hL
  clear hL
  go_enter Tryd.func39, Tryd.ntmps39
  go_upto_region 1 with fail
  try rw [hW1]
  clear hW1
  go_wp2
  go_loopw [7] (fun i wr => ∃ j : Nat, j ≤ L ∧ i = .int .i64 (j : Int) ∧ firstL (l.drop j) = firstL l ∧ Below W1.heap.size W1 wr) (fun i _ => L - (intOf i).toNat)
  case atStart => exact ⟨0, by omega, rfl, HI.out, Below.refl _ _⟩
  case round =>
    obtain ⟨j, hj, rfl, he, hbw⟩ := hrel
    have HBE := hide he
    have HBW := hide hbw
    have HRr := hide (HR.out.belowW hbw)
    clear he hbw
    by_cases hlt : j < L
    · obtain ⟨g, o, hao, hC⟩ := (H.out.belowW HBW.out).get j (by rw [HLE.out]; exact hlt)
      subst hao
      obtain ⟨k0, k1, k2, k3⟩ := hC
      have HEj := hide (HE.out j hlt)
      have hgl := World.block_lt_of_cell? wr _ k0
      generalize l.getD j Vl.zero = V at *
      by_cases h0 : V.ty = 0
      · have HE2 : Hid (firstL (l.drop (j + 1)) = firstL l) := by rw [← HBE.out, HEj.out, if_pos h0]; exact rfl
        rw [h0] at k0
        clear h0 HEj HBE
        go_wp2
        go_roundw
        case rel => exact ⟨j + 1, by omega, by go_num, HE2.out, HBW.out.alloc HBW.out.size _⟩
        case measure => simp [intOf]; omega
      · have HE2 : Hid (V = firstL l) := by rw [Hid, ← HBE.out, HEj.out, if_neg h0]
        have z0 : (V.ty == 0) = false := beq_eq_false_iff_ne.2 h0
        have z1 : (V.ty != 0) = true := by simp [h0]
        have HRv : Hid (Box (wr.alloc (.cells #[.int .i64 V.ty, .int .i64 V.n, .string (strOf V.t), .bool V.b] 23)) w.heap.size Vl.zero) := HRr.out.belowW ((Below.refl _ _).alloc (Nat.le_refl _) _)
        clear h0 HEj HBE
        go_wp2_with (refine wpList_store_val rfl (.tmp 2) (.tmp 14) rfl rfl w.heap.size Vl.zero V rfl rfl HRv.out ?_)
        refine bodyPost_ret (v := valOf V) (results_cell_row Tryd.results39 _ _ w.heap.size 23 _ (0, 0) _ rfl (Box.after HRv.out V) Tryd.underlying23 rfl Tryd.size23) rfl ?_
        rw [← HE2.out]
        exact ⟨rfl, below_setRow ((thenW HAL.out HBW.out).alloc (Nat.le_trans HAL.out.size HBW.out.size) _) (Nat.le_refl _) _⟩
    · have hkL : j = L := by omega
      subst hkL
      have HE2 : Hid (Vl.zero = firstL l) := by rw [Hid, ← HBE.out]; exact HN.out.symm
      clear HBE HE HN
      go_wp2_with (refine wpList_store_val rfl (.tmp 2) (.tmp 16) rfl rfl w.heap.size Vl.zero Vl.zero rfl rfl HRr.out ?_)
      refine bodyPost_ret (v := valOf Vl.zero) (results_cell_row Tryd.results39 _ _ w.heap.size 23 _ (0, 0) _ rfl (Box.after HRr.out Vl.zero) Tryd.underlying23 rfl Tryd.size23) rfl ?_
      rw [← HE2.out]
      exact ⟨rfl, below_setRow (thenW HAL.out HBW.out) (Nat.le_refl _) _⟩
end Go.Proofs.YtigafjdacllohaaDoor
