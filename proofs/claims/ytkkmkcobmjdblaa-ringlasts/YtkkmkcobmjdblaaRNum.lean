/- Numbers out of bytes and into bytes: 'number', 'setHead', 'bytesOf'. -/
import Derived.Test.YtkkmkcobmjdblaaDev
import Derived.Deep.QuietTactic
import Derived.BigQuiet
import Derived.WalkMore
import Derived.ScopeJumps
namespace Go.Proofs.Ytkkmkcobmjdblaa
open Go.RowKit
set_option linter.unusedVariables false
set_option linter.unusedSimpArgs false

/-- The number that bytes are, the highest first. -/
def beval (bs : List UInt8) : Nat := bs.foldl (fun v c => v * 256 + c.toNat) 0
theorem beval_snoc (bs : List UInt8) (c : UInt8) : beval (bs ++ [c]) = beval bs * 256 + c.toNat := by simp [beval]
theorem befold_lt : ∀ (bs : List UInt8) (v : Nat), bs.foldl (fun v c => v * 256 + c.toNat) v < (v + 1) * 256 ^ bs.length
  | [], v => by simp
  | c :: r, v => by
    rw [List.foldl_cons, List.length_cons, Nat.pow_succ]
    refine Nat.lt_of_lt_of_le (befold_lt r _) ?_
    have := c.toNat_lt
    calc (v * 256 + c.toNat + 1) * 256 ^ r.length ≤ ((v + 1) * 256) * 256 ^ r.length := Nat.mul_le_mul_right _ (by omega)
      _ = (v + 1) * (256 ^ r.length * 256) := by rw [Nat.mul_assoc, Nat.mul_comm 256]
theorem beval_lt (bs : List UInt8) : beval bs < 256 ^ bs.length := by
  have := befold_lt bs 0
  simpa [beval] using this
theorem secCells_get (bs : List UInt8) (k : Nat) (h : k < bs.length) : (secCells bs).toArray[k]? = some (.int .u8 (bs[k].toNat : Int)) := by
  simp [secCells, bcell, h]

theorem or_low (v c : Nat) (hc : c < 256) : (v * 256) ||| c = v * 256 + c := by
  have h := Nat.shiftLeft_add_eq_or_of_lt (i := 8) (by simpa using hc) v
  rw [Nat.shiftLeft_eq] at h
  exact h.symm
theorem wrapU (x : Int) : IntKind.u64.wrap x = x % 18446744073709551616 := rfl
theorem or_u64 (v c : Nat) (hv : v < 72057594037927936) (hc : c < 256) : bits .or .u64 (IntKind.u64.wrap ((v : Int) * 256)) (IntKind.u64.wrap (c : Int)) = ((v * 256 + c : Nat) : Int) := by
  have h1 : IntKind.u64.wrap ((v : Int) * 256) = ((v * 256 : Nat) : Int) := by rw [wrapU]; omega
  have h2 : IntKind.u64.wrap (c : Int) = (c : Int) := by rw [wrapU]; omega
  rw [h1, h2]
  have : bits .or .u64 ((v * 256 : Nat) : Int) (c : Int) = IntKind.u64.wrap (((BitVec.ofInt 64 ((v * 256 : Nat) : Int)).toNat ||| (BitVec.ofInt 64 (c : Int)).toNat : Nat) : Int) := by
    simp only [bits, BitVec.toNat_or]
    rfl
  rw [this]
  have e1 : (BitVec.ofInt 64 ((v * 256 : Nat) : Int)).toNat = v * 256 := by simp; omega
  have e2 : (BitVec.ofInt 64 (c : Int)).toNat = c := by simp; omega
  rw [e1, e2, or_low v c hc, wrapU]
  omega
theorem or_i64 (v c : Nat) (hv : v < 256) (hc : c < 256) : bits .or .i64 ((v : Int) * 256) (c : Int) = ((v * 256 + c : Nat) : Int) := by
  have h1 : (v : Int) * 256 = ((v * 256 : Nat) : Int) := by omega
  rw [h1]
  have : bits .or .i64 ((v * 256 : Nat) : Int) (c : Int) = IntKind.i64.wrap (((BitVec.ofInt 64 ((v * 256 : Nat) : Int)).toNat ||| (BitVec.ofInt 64 (c : Int)).toNat : Nat) : Int) := by
    simp only [bits, BitVec.toNat_or]
    rfl
  rw [this]
  have e1 : (BitVec.ofInt 64 ((v * 256 : Nat) : Int)).toNat = v * 256 := by simp; omega
  have e2 : (BitVec.ofInt 64 (c : Int)).toNat = c := by simp; omega
  rw [e1, e2, or_low v c hc, IntKind.wrap_i64]
  omega

set_option maxHeartbeats 400000 in
theorem number_any (g c : Nat) (bs : List UInt8) (t : TypeId) (fr : Nat × Nat) (w : World) (hq : w.heap[g]? = some (.cells (secCells bs).toArray t fr)) (hl : bs.length = 128) (hc : 128 ≤ c) :
    Calls Try.prog 54 #[.slice (some ⟨g, 0, none⟩) 128 c] w fun e w' => e = .returned (.int .u64 (beval (bs.take 8) : Nat)) ∧ w' = w := by
  go_enter Try.func54, Try.ntmps54
  go_wp2
  go_loop [9, 3] (fun i v => ∃ k : Nat, k ≤ 8 ∧ i = .int .i64 k ∧ v = .int .u64 (beval (bs.take k) : Nat)) (fun i _ => 8 - (intOf i).toNat)
  case atStart => exact ⟨0, by omega, rfl, rfl⟩
  case round =>
    obtain ⟨k, hk, rfl, rfl⟩ := hrel
    by_cases hlt : k < 8
    · have hcell : w.cell? ⟨g, k, none⟩ = some (.int .u8 ((bs[k]'(by omega)).toNat : Int)) := by rw [cell_of_row _ _ _ _ _ _ hq]; exact secCells_get bs k (by omega)
      go_wp2
      go_round
      case rel =>
        refine ⟨k + 1, by omega, rfl, ?_⟩
        have hv : beval (bs.take k) < 72057594037927936 := by
          have h1 := beval_lt (bs.take k)
          rw [List.length_take, Nat.min_eq_left (by omega)] at h1
          exact Nat.lt_of_lt_of_le h1 (Nat.le_trans (Nat.pow_le_pow_right (by omega) (by omega : k ≤ 7)) (by decide))
        rw [or_u64 _ _ hv (bs[k]'(by omega)).toNat_lt, List.take_succ_eq_append_getElem (by omega), beval_snoc]
      case measure => simp [intOf]; omega
    · go_wp2
      go_ret
      have hk8 : k = 8 := by omega
      subst hk8
      exact ⟨rfl, rfl⟩
/-- Eight bytes of a number, the highest first. -/
def be8 (v : Nat) : List UInt8 := (List.range 8).map fun i => UInt8.ofNat (v / 256 ^ (7 - i) % 256)
theorem length_be8 (v : Nat) : (be8 v).length = 8 := by simp [be8]
def headOf (s c : Nat) : List UInt8 := be8 (s + 1) ++ [UInt8.ofNat (c / 256), UInt8.ofNat (c % 256)]
theorem length_headOf (s c : Nat) : (headOf s c).length = 10 := by simp [headOf, length_be8]

theorem sec_setCell {w : World} {g : Nat} {X : List UInt8} (hg : w.heap[g]? = some (.cells (secCells X).toArray 5 (0, 0))) (k : Nat) (b : UInt8) :
    (w.setCell ⟨g, k, none⟩ (bcell b)).heap[g]? = some (.cells (secCells (X.set k b)).toArray 5 (0, 0)) := by
  rw [heap_setCell_same w g k _ _ _ hg]
  simp [secCells, List.map_set]
theorem set_mid {α : Type} (A B : List α) (k : Nat) (hA : k < A.length) (hB : k < B.length) : (A.take k ++ B.drop k).set k A[k] = A.take (k + 1) ++ B.drop (k + 1) := by
  rw [List.set_append_right _ _ (by simp; omega), List.length_take, Nat.min_eq_left (by omega), Nat.sub_self, List.take_succ_eq_append_getElem hA, List.append_assoc]
  congr 1
  rw [List.drop_eq_getElem_cons hB, List.set_cons_zero]
  rfl
theorem be8_get (v k : Nat) (h : k < 8) : (be8 v)[k]'(by rw [length_be8]; exact h) = UInt8.ofNat (v / 256 ^ (7 - k) % 256) := by simp [be8]
theorem bcell_ofNat (x : Nat) (h : x < 256) : bcell (UInt8.ofNat x) = .int .u8 (x : Int) := by
  unfold bcell
  rw [UInt8.toNat_ofNat', Nat.mod_eq_of_lt h]
theorem be8_cell (s k : Nat) (h : k < 8) : Value.int .u8 (((s : Int) + 1) / 2 ^ (8 * (7 - k)) % 256) = bcell ((be8 (s + 1))[k]'(by rw [length_be8]; exact h)) := by
  rw [be8_get _ _ h, bcell_ofNat _ (Nat.mod_lt _ (by omega))]
  congr 1
  have e : (2 : Int) ^ (8 * (7 - k)) = ((256 ^ (7 - k) : Nat) : Int) := by
    rw [Int.pow_mul]
    simp
  rw [e, show (s : Int) + 1 = ((s + 1 : Nat) : Int) by omega, ← Int.natCast_ediv]
  omega

set_option maxHeartbeats 400000 in
theorem setHead_any (g c s n : Nat) (bs : List UInt8) (w : World) (hq : w.heap[g]? = some (.cells (secCells bs).toArray 5 (0, 0))) (hl : bs.length = 128) (hc : 128 ≤ c) (hs : s < 4611686018427387904) (hn : n ≤ 118) :
    Calls Try.prog 56 #[.slice (some ⟨g, 0, none⟩) 128 c, .int .i64 (s : Int), .int .i64 (n : Int)] w fun e w' => e = .returned (.tuple #[]) ∧ w'.heap[g]? = some (.cells (secCells (headOf s n ++ bs.drop 10)).toArray 5 (0, 0)) ∧ Off [g] w w' := by
  go_enter Try.func56, Try.ntmps56
  go_wp2
  go_loopw [11] (fun i wr => ∃ k : Nat, k ≤ 8 ∧ i = .int .i64 k ∧ wr.heap[g]? = some (.cells (secCells ((be8 (s + 1)).take k ++ bs.drop k)).toArray 5 (0, 0)) ∧ Off [g] w wr) (fun i _ => 8 - (intOf i).toNat)
  case atStart => exact ⟨0, by omega, rfl, by simpa using hq, Off.refl _ _⟩
  case round =>
    obtain ⟨k, hk, rfl, hg, ho⟩ := hrel
    have hlen : ((be8 (s + 1)).take k ++ bs.drop k).length = 128 := by simp [length_be8, hl]; omega
    by_cases hlt : k < 8
    · have hcell : wr.cell? ⟨g, k, none⟩ = some (.int .u8 (((be8 (s + 1)).take k ++ bs.drop k)[k]'(by omega)).toNat) := by rw [cell_of_row _ _ _ _ _ _ hg]; exact secCells_get _ k (by omega)
      have hfz := frozen_of_row wr g k _ _ hg
      go_wp2
      go_roundw
      case rel =>
        refine ⟨k + 1, by omega, rfl, ?_, ho.setCell _ _ (.inl (by simp))⟩
        rw [be8_cell s k hlt, sec_setCell hg, set_mid _ _ _ (by rw [length_be8]; exact hlt) (by omega)]
      case measure => simp [intOf]; omega
    · have hk8 : k = 8 := by omega
      subst hk8
      have h8 : wr.cell? ⟨g, 8, none⟩ = some (.int .u8 (((be8 (s + 1)).take 8 ++ bs.drop 8)[8]'(by omega)).toNat) := by rw [cell_of_row _ _ _ _ _ _ hg]; exact secCells_get _ 8 (by omega)
      have h9 : wr.cell? ⟨g, 9, none⟩ = some (.int .u8 (((be8 (s + 1)).take 8 ++ bs.drop 8)[9]'(by omega)).toNat) := by rw [cell_of_row _ _ _ _ _ _ hg]; exact secCells_get _ 9 (by omega)
      have f8 := frozen_of_row wr g 8 _ _ hg
      have f9 := frozen_of_row wr g 9 _ _ hg
      go_wp2
      go_end0
      refine ⟨rfl, ?_, (ho.setCell _ _ (.inl (by simp))).setCell _ _ (.inl (by simp))⟩
      have e8 : (Value.int .u8 ((n : Int) / 256)) = bcell (UInt8.ofNat (n / 256)) := by rw [bcell_ofNat _ (by omega)]; rfl
      have e9 : (Value.int .u8 (n : Int)) = bcell (UInt8.ofNat (n % 256)) := by rw [bcell_ofNat _ (by omega), Nat.mod_eq_of_lt (by omega)]
      rw [e8, e9, sec_setCell (sec_setCell hg 8 _) 9]
      congr 4
      rw [List.take_of_length_le (by rw [length_be8]; omega), List.set_append_right _ _ (by rw [length_be8]; omega), List.set_append_right _ _ (by rw [length_be8]; omega), length_be8, headOf, List.append_assoc]
      congr 1
      rw [List.drop_eq_getElem_cons (show 8 < bs.length by omega), List.drop_eq_getElem_cons (show 9 < bs.length by omega)]
      rfl
/-- How many bytes a sector says that it has. -/
def cntOf (bs : List UInt8) : Nat := (bs.getD 8 0).toNat * 256 + (bs.getD 9 0).toNat
/-- Is the stream's sector s there, with bytes behind the first skip? -/
def isThere (bs : List UInt8) (s skip : Nat) : Prop := beval (bs.take 8) = s + 1 ∧ 1 ≤ cntOf bs ∧ cntOf bs ≤ 118 ∧ skip < cntOf bs
def isThereD (bs : List UInt8) (s skip : Nat) : Decidable (isThere bs s skip) := if h : beval (bs.take 8) = s + 1 ∧ 1 ≤ cntOf bs ∧ cntOf bs ≤ 118 ∧ skip < cntOf bs then .isTrue h else .isFalse h
def got (bs : List UInt8) (s skip : Nat) : List UInt8 := @ite _ (isThere bs s skip) (isThereD bs s skip) ((bs.drop (10 + skip)).take (cntOf bs - skip)) []

theorem Exit.jump_ret {l : Nat} {J : Act → World → Prop} {Q : Exit → Act → World → Prop} {a : Act} {w : World} : Exit.jump l J Q .ret a w = Q .ret a w := rfl
/-- A scope in which the run jumps, if at all, forward to one label: what stands behind the label is walked from the jump's own frame. -/
theorem wp_scope_forward {P : Program} {Q : Exit → Act → World → Prop} {a : Act} {w : World} {c rest : Code} (l : Nat) (hf : findLabel c l = some rest)
    (first : c.wp P (Exit.jump l (fun a w => rest.wp P (Exit.noGoto Q) a w) Q) a w) : (Code.scope c).wp P Q a w := by
  refine wp_scope_jumps l _ (fun _ _ => 0) hf first (fun a w hJ => ?_)
  intro b k cs
  obtain ⟨e, a', w', hq, harr⟩ := hJ b k cs
  exact ⟨e, a', w', by cases e <;> first | exact hq | exact hq.elim, harr⟩

set_option maxHeartbeats 400000 in
theorem bytesOf_any (g s skip : Nat) (bs : List UInt8) (t : TypeId) (fr : Nat × Nat) (w : World) (hq : w.heap[g]? = some (.cells (secCells bs).toArray t fr)) (hl : bs.length = 128) (hs : s < 4611686018427387904) (hk : skip < 118) :
    Calls Try.prog 48 #[.slice (some ⟨g, 0, none⟩) 128 128, .int .i64 (s : Int), .int .i64 (skip : Int)] w fun e w' => e = .returned (@ite Value (isThere bs s skip) (isThereD bs s skip) (.slice (some ⟨g, 10 + skip, none⟩) (cntOf bs - skip) (118 - skip)) (.slice none 0 0)) ∧ ∃ m, w' = w.drewN m := by
  obtain ⟨V, hV⟩ : ∃ V, (@ite Value (isThere bs s skip) (isThereD bs s skip) (Value.slice (some ⟨g, 10 + skip, none⟩) (cntOf bs - skip) (118 - skip)) (.slice none 0 0)) = V := ⟨_, rfl⟩
  rw [hV]
  have HV := hide hV
  clear hV
  have HN := hide (number_any g 128 bs t fr w hq hl (by omega))
  have h8 : w.cell? ⟨g, 8, none⟩ = some (.int .u8 ((bs.getD 8 0).toNat : Int)) := by rw [cell_of_row _ _ _ _ _ _ hq, secCells_get bs 8 (by omega)]; simp [show 8 < bs.length by omega]
  have h9 : w.cell? ⟨g, 9, none⟩ = some (.int .u8 ((bs.getD 9 0).toNat : Int)) := by rw [cell_of_row _ _ _ _ _ _ hq, secCells_get bs 9 (by omega)]; simp [show 9 < bs.length by omega]
  have l8 := (bs.getD 8 0).toNat_lt
  have l9 := (bs.getD 9 0).toNat_lt
  clear hq
  have HCN : Hid (cntOf bs = (bs.getD 8 0).toNat * 256 + (bs.getD 9 0).toNat) := by show _ = _; rfl
  generalize (bs.getD 8 0).toNat = x8 at *
  generalize (bs.getD 9 0).toNat = x9 at *
  have hor : bits .or .i64 ((x8 : Int) * 256) (x9 : Int) = ((cntOf bs : Nat) : Int) := by
    rw [HCN.out, ← or_i64 x8 x9 l8 l9]
  by_cases hnum : beval (bs.take 8) = s + 1
  · have hz : (((beval (bs.take 8) : Nat) : Int) != ((s : Int) + 1)) = false := by rw [hnum]; simp
    have HNUM := hide hnum
    clear hnum
    go_enter Try.func48, Try.ntmps48
    go_wp2
    refine wp_scope_forward 0 rfl ?_
    go_wp2_with (go_at_call 54; refine HN.out.mono ?_; rintro e w' ⟨rfl, hw⟩; have hw := hw.symm; subst hw)
    go_quiet (fail)
    clear hor h8 h9 HN hz l8 l9 HCN
    obtain ⟨n, hn⟩ : ∃ n, cntOf bs = n := ⟨_, rfl⟩
    rw [hn] at HV ⊢
    have HN := hide hn
    clear hn
    by_cases h1 : n < 1
    · have hW : V = .slice none 0 0 := by rw [← HV.out, if_neg (fun h : isThere bs s skip => by have := h.2.1; have := HN.out; omega)]
      subst hW
      go_wp2
      go_step3
      refine ⟨rfl, ?_⟩
      go_wp2
      rw [Exit.noGoto_ret]
      go_ret
      exact ⟨rfl, nq, rfl⟩
    · by_cases h2 : 118 < n
      · have hW : V = .slice none 0 0 := by rw [← HV.out, if_neg (fun h : isThere bs s skip => by have := h.2.2.1; have := HN.out; omega)]
        subst hW
        go_wp2
        go_step3
        refine ⟨rfl, ?_⟩
        go_wp2
        rw [Exit.noGoto_ret]
        go_ret
        exact ⟨rfl, nq, rfl⟩
      · by_cases h3 : n ≤ skip
        · have hW : V = .slice none 0 0 := by rw [← HV.out, if_neg (fun h : isThere bs s skip => by have := h.2.2.2; have := HN.out; omega)]
          subst hW
          go_wp2
          go_step3
          refine ⟨rfl, ?_⟩
          go_wp2
          rw [Exit.noGoto_ret]
          go_ret
          exact ⟨rfl, nq, rfl⟩
        · have HW : Hid (V = .slice (some ⟨g, 10 + skip, none⟩) (n - skip) (118 - skip)) := by
            show _ = _
            rw [← HV.out, if_pos (show isThere bs s skip from ⟨HNUM.out, by have := HN.out; omega, by have := HN.out; omega, by have := HN.out; omega⟩)]
          clear HV
          go_wp2
          rw [Exit.jump_ret]
          go_ret
          refine ⟨?_, nq, rfl⟩
          rw [HW.out]
          show Ending.returned (Value.slice (some ⟨g, 10 + skip, none⟩) (10 + n - (10 + skip)) (128 - (10 + skip))) = _
          rw [show 10 + n - (10 + skip) = n - skip by omega, show 128 - (10 + skip) = 118 - skip by omega]
  · have hz : (((beval (bs.take 8) : Nat) : Int) != ((s : Int) + 1)) = true := by simp; omega
    have hW : V = .slice none 0 0 := by rw [← HV.out, if_neg (fun h : isThere bs s skip => hnum h.1)]
    subst hW
    clear hnum
    go_enter Try.func48, Try.ntmps48
    go_wp2
    refine wp_scope_forward 0 rfl ?_
    go_wp2_with (go_at_call 54; refine HN.out.mono ?_; rintro e w' ⟨rfl, hw⟩; have hw := hw.symm; subst hw)
    go_step3
    refine ⟨rfl, ?_⟩
    go_wp2
    rw [Exit.noGoto_ret]
    go_ret
    exact ⟨rfl, 0, rfl⟩
end Go.Proofs.Ytkkmkcobmjdblaa
