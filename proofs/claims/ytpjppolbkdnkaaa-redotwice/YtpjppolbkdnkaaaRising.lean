/- rising: do LSNs rise from 1 on? -/
import Derived.Test.YtpjppolbkdnkaaaEnd
namespace Go.Proofs.Ytpjppolbkdnkaaa
open Go.RowKit
set_option linter.unusedVariables false
set_option linter.unusedSimpArgs false

/-- A slice of lines, however long. -/
def LinesIn (w : World) (a : Option Addr) (L : List Ln) : Prop := ∀ (i : Nat) (x : Ln), L[i]? = some x → x.ok ∧ ∃ b o, a = some ⟨b, o, none⟩ ∧ b < w.heap.size ∧ w.rangeAt b (o + i * 12) (lnCells x)
/-- The first k LSNs rise from 1 on. -/
def RisTo (L : List Ln) (k : Nat) : Prop := ∀ (i : Nat) (x : Ln), i < k → L[i]? = some x → 1 ≤ x.lsn ∧ ∀ (p : Nat) (y : Ln), i = p + 1 → L[p]? = some y → y.lsn < x.lsn
theorem RisTo.rises {L : List Ln} (h : RisTo L L.length) : Rises L := by
  have key : ∀ (d i : Nat) (x y : Ln), L[i]? = some x → L[i + d + 1]? = some y → x.lsn < y.lsn := by
    intro d
    induction d with
    | zero => intro i x y hx hy; exact (h (i + 1) y (List.getElem?_eq_some_iff.1 hy).1 hy).2 i x rfl hx
    | succ d ih =>
      intro i x y hx hy
      have hl := (List.getElem?_eq_some_iff.1 hy).1
      obtain ⟨z, hz⟩ : ∃ z, L[i + d + 1]? = some z := ⟨_, List.getElem?_eq_getElem (by omega)⟩
      have h1 := ih i x z hx hz
      have h2 := (h (i + (d + 1) + 1) y hl hy).2 (i + d + 1) z (by omega) hz
      omega
  intro i j x y hx hy hij
  obtain ⟨d, rfl⟩ : ∃ d, j = i + d + 1 := ⟨j - i - 1, by omega⟩
  exact key d i x y hx hy
set_option maxHeartbeats 2000000 in
set_option maxRecDepth 100000 in
theorem rising_any (w : World) (a : Option Addr) (c : Nat) (L : List Ln) (hL : LinesIn w a L) (hl1 : L.length ≤ 9223372036854775807) :
    Calls Try.prog 28 #[.slice a L.length c] w fun e w' => ∃ b, e = .returned (.bool b) ∧ (b = true → RisTo L L.length ∧ L.length ≤ 100) ∧ Below w.heap.size w w' := by
  have HL := hide hL
  obtain ⟨n, hn⟩ : ∃ n, L.length = n := ⟨_, rfl⟩
  have HN := hide hn
  rw [hn] at hl1 ⊢
  clear hn hL
  go_enter Try.func28, Try.ntmps28
  go_wp2
  go_loopw [3] (fun i wr => ∃ k : Nat, k ≤ n ∧ i = .int .i64 k ∧ RisTo L k ∧ Below w.heap.size w wr) (fun i _ => n - (iv i).toNat)
  case atStart => exact ⟨0, by omega, rfl, fun i x hi => by omega, Below.refl _ _⟩
  case round =>
    obtain ⟨k, hk, rfl, hR, hb⟩ := hrel
    have HR := hide hR
    have HB := hide hb
    by_cases hlt : k < n
    · obtain ⟨x, hx⟩ : ∃ x, L[k]? = some x := ⟨_, List.getElem?_eq_getElem (by rw [HN.out]; exact hlt)⟩
      obtain ⟨hok, b, o, hab, hbl, hrg⟩ := HL.out k x hx
      have d0 : wr.cell? ⟨b, o + k * 12, none⟩ = some (.int .i64 x.lsn) := (hb.cell (p := ⟨b, o + k * 12, none⟩) hbl).trans (hrg 0 _ rfl)
      have HX := hide hx
      clear hrg hx hb hR
      rw [hab]
      by_cases h1 : x.lsn < 1
      · have hd : decide (x.lsn < 1) = true := decide_eq_true h1
        go_wp2
        go_quiet (fail)
        go_wp2
        go_ret
        exact ⟨false, rfl, (fun h => absurd h (by simp)), HB.out.trans (below_drewN _ _ _)⟩
      · have hd : decide (x.lsn < 1) = false := decide_eq_false h1
        cases k with
        | zero =>
          have hz : decide ((0 : Int) > 0) = false := by simp
          have d00 : wr.cell? ⟨b, o, none⟩ = some (.int .i64 x.lsn) := by simpa using d0
          have hln : ((0 : Int) < (n : Int)) := by omega
          rw [show ((0 : Nat) : Int) = (0 : Int) from rfl]
          go_wp2
          go_quiet (fail)
          go_wp2
          go_roundw
          case rel =>
            refine ⟨1, by omega, by go_num, fun i y hi hy => ?_, HB.out.trans (below_drewN _ _ _)⟩
            obtain rfl : i = 0 := by omega
            rw [HX.out] at hy; cases hy
            exact ⟨by omega, fun p z hp => by omega⟩
          case measure => simp [iv]; omega
        | succ p =>
          obtain ⟨y, hy⟩ : ∃ y, L[p]? = some y := ⟨_, List.getElem?_eq_getElem (by rw [HN.out]; omega)⟩
          obtain ⟨hok2, b2, o2, hab2, hbl2, hrg2⟩ := HL.out p y hy
          rw [hab] at hab2
          injection hab2 with hab2
          injection hab2 with q1 q2
          subst q1; subst q2
          have d1 : wr.cell? ⟨b, o + p * 12, none⟩ = some (.int .i64 y.lsn) := (HB.out.cell (p := ⟨b, o + p * 12, none⟩) hbl2).trans (hrg2 0 _ rfl)
          have HY := hide hy
          have hz : decide (((p + 1 : Nat) : Int) > 0) = true := by simp
          have hpi : ((p + 1 : Nat) : Int) - 1 = (p : Int) := by omega
          clear hrg2 hy
          by_cases h2 : x.lsn ≤ y.lsn
          · have hd2 : decide (x.lsn ≤ y.lsn) = true := decide_eq_true h2
            go_wp2
            go_quiet (fail)
            go_wp2
            go_ret
            exact ⟨false, rfl, (fun h => absurd h (by simp)), HB.out.trans (below_drewN _ _ _)⟩
          · have hd2 : decide (x.lsn ≤ y.lsn) = false := decide_eq_false h2
            go_wp2
            go_quiet (fail)
            go_wp2
            go_roundw
            case rel =>
              refine ⟨p + 2, by omega, by go_num, fun i z hi hz' => ?_, HB.out.trans (below_drewN _ _ _)⟩
              by_cases e : i = p + 1
              · subst e
                rw [HX.out] at hz'; cases hz'
                refine ⟨by omega, fun q u hq hu => ?_⟩
                obtain rfl : q = p := by omega
                rw [HY.out] at hu; cases hu
                omega
              · exact HR.out i z (by omega) hz'
            case measure => simp [iv]; omega
    · obtain rfl : k = n := by omega
      go_wp2
      go_ret
      refine ⟨_, rfl, fun h => ⟨HR.out, ?_⟩, HB.out⟩
      have := of_decide_eq_true h
      omega
end Go.Proofs.Ytpjppolbkdnkaaa
