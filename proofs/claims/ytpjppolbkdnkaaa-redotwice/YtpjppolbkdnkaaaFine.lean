/- fine: do checkpoints tell transactions and pages by rising number, each once? -/
import Derived.Test.YtpjppolbkdnkaaaUnlike
namespace Go.Proofs.Ytpjppolbkdnkaaa
open Go.RowKit
set_option linter.unusedVariables false
set_option linter.unusedSimpArgs false

/-- A slice of dirty pages, however long. -/
def DirtsIn (w : World) (a : Option Addr) (D : List (Int × Int)) : Prop := ∀ (i : Nat) (x : Int × Int), D[i]? = some x → ∃ b o, a = some ⟨b, o, none⟩ ∧ b < w.heap.size ∧ w.rangeAt b (o + i * 2) [.int .i64 x.1, .int .i64 x.2]
/-- What a record's lists hold. -/
structure ListsIn (w : World) (x : Ln) : Prop where
  dirty : ∃ D, x.sd.n = D.length ∧ D.length ≤ 9223372036854775807 ∧ DirtsIn w x.sd.a D
  txns : ∃ T, x.st.n = T.length ∧ T.length ≤ 9223372036854775807 ∧ TxsAt w x.st.a T
set_option maxHeartbeats 2000000 in
set_option maxRecDepth 100000 in
theorem fine_any (w : World) (a : Option Addr) (c : Nat) (L : List Ln) (hL : LinesIn w a L) (hl1 : L.length ≤ 9223372036854775807) (hI : ∀ x ∈ L, ListsIn w x) :
    Calls Try.prog 11 #[.slice a L.length c] w fun e w' => ∃ b, e = .returned (.bool b) ∧ (b = true → RisTo L L.length ∧ L.length ≤ 100) ∧ Below w.heap.size w w' := by
  have HL := hide hL
  have HI := hide hI
  have HRI := hide (fun (W : World) (hb : Below w.heap.size w W) => rising_any W a c L (fun i x hx => by
    obtain ⟨h0, b, o, h1, h2, h3⟩ := hL i x hx
    exact ⟨h0, b, o, h1, Nat.lt_of_lt_of_le h2 hb.size, fun j v hv => (hb.cell (p := ⟨b, o + i * 12 + j, none⟩) h2).trans (h3 j v hv)⟩) hl1)
  obtain ⟨n, hn⟩ : ∃ n, L.length = n := ⟨_, rfl⟩
  have HN := hide hn
  rw [hn] at hl1 HRI ⊢
  clear hn hL hI
  go_enter Try.func11, Try.ntmps11
  go_wp2
  go_loopw [3] (fun i wr => ∃ k : Nat, i = .int .i64 k ∧ k ≤ n ∧ Below w.heap.size w wr) (fun i _ => n - (iv i).toNat)
  case atStart => exact ⟨0, rfl, by omega, Below.refl _ _⟩
  case round =>
    obtain ⟨k, rfl, hk, hb⟩ := hrel
    have HB := hide hb
    by_cases hlt : k < n
    · obtain ⟨x, hx⟩ : ∃ x, L[k]? = some x := ⟨_, List.getElem?_eq_getElem (by rw [HN.out]; exact hlt)⟩
      obtain ⟨hok, b, o, hab, hbl, hrg⟩ := HL.out k x hx
      have d10 : wr.cell? ⟨b, o + k * 12 + 10, none⟩ = some (.slice x.sd.a x.sd.n x.sd.c) := (hb.cell (p := ⟨b, o + k * 12 + 10, none⟩) hbl).trans (hrg 10 _ rfl)
      have HD9 : Hid (w.cell? ⟨b, o + k * 12 + 9, none⟩ = some (.slice x.st.a x.st.n x.st.c)) := hrg 9 _ rfl
      obtain ⟨⟨D, hD1, hD2, hD3⟩, ⟨T, hT1, hT2, hT3⟩⟩ := HI.out x (List.mem_of_getElem? hx)
      have HD := hide hD3
      have HT := hide (fun (W : World) (hb' : Below w.heap.size w W) => unlike_any W x.st.a x.st.c T (hT3.below hb') hT2)
      rw [← hT1] at HT
      obtain ⟨m, hm⟩ : ∃ m, x.sd.n = m := ⟨_, rfl⟩
      have hDm : D.length = m := by omega
      rw [hm] at d10
      have HDM := hide hDm
      have hm1 : m ≤ 9223372036854775807 := by omega
      clear hrg hx hb hD1 hD2 hD3 hT1 hT2 hT3 hm hDm
      rw [hab]
      go_wp2
      go_loopw [5] (fun i wr => ∃ j : Nat, i = .int .i64 ((j + 1 : Nat) : Int) ∧ j ≤ m ∧ Below w.heap.size w wr) (fun i _ => m + 1 - (iv i).toNat)
      case atStart => exact ⟨0, rfl, by omega, HB.out⟩
      case round =>
        obtain ⟨j, rfl, hj, hb2⟩ := hrel
        have HB2 := hide hb2
        by_cases hlt2 : j + 1 < m
        · obtain ⟨u, hu⟩ : ∃ u, D[j + 1]? = some u := ⟨_, List.getElem?_eq_getElem (by rw [HDM.out]; exact hlt2)⟩
          obtain ⟨b3, o3, hab3, hbl3, hrg3⟩ := HD.out (j + 1) u hu
          have e0 : wr.cell? ⟨b3, o3 + (j + 1) * 2, none⟩ = some (.int .i64 u.1) := (hb2.cell (p := ⟨b3, o3 + (j + 1) * 2, none⟩) hbl3).trans (hrg3 0 _ rfl)
          obtain ⟨v, hv⟩ : ∃ v, D[j]? = some v := ⟨_, List.getElem?_eq_getElem (by rw [HDM.out]; omega)⟩
          obtain ⟨b4, o4, hab4, hbl4, hrg4⟩ := HD.out j v hv
          rw [hab3] at hab4
          injection hab4 with hab4
          injection hab4 with q1 q2
          subst q1; subst q2
          have e1 : wr.cell? ⟨b3, o3 + j * 2, none⟩ = some (.int .i64 v.1) := (hb2.cell (p := ⟨b3, o3 + j * 2, none⟩) hbl4).trans (hrg4 0 _ rfl)
          have hpi : ((j + 1 : Nat) : Int) - 1 = (j : Int) := by omega
          clear hrg3 hrg4 hu hv hb2
          rw [hab3]
          by_cases h2 : u.1 ≤ v.1
          · have hd2 : decide (u.1 ≤ v.1) = true := decide_eq_true h2
            go_wp2
            go_quiet (fail)
            go_wp2
            go_ret
            exact ⟨false, rfl, (fun h => absurd h (by simp)), HB2.out.trans (below_drewN _ _ _)⟩
          · have hd2 : decide (u.1 ≤ v.1) = false := decide_eq_false h2
            go_wp2
            go_quiet (fail)
            go_wp2
            go_roundw
            case rel => exact ⟨j + 1, by go_num, by omega, HB2.out.trans (below_drewN _ _ _)⟩
            case measure => simp [iv]; omega
        · have d9 : wr.cell? ⟨b, o + k * 12 + 9, none⟩ = some (.slice x.st.a x.st.n x.st.c) := (hb2.cell (p := ⟨b, o + k * 12 + 9, none⟩) hbl).trans HD9.out
          go_wp2_with (go_at_call 27; refine (HT.out wr hb2).mono ?_; rintro e w3 ⟨bb, rfl, hb3⟩; have HB3 : Hid (Below w.heap.size w w3) := HB2.out.trans (hb3.mono HB2.out.size))
          · go_ret
            exact ⟨false, rfl, (fun h => absurd h (by simp)), HB3.out⟩
          · exact ⟨⟨k + 1, by go_num, by omega, HB3.out⟩, by simp [iv]; omega⟩
    · go_wp2_with (go_at_call 28; refine (HRI.out wr HB.out).mono ?_; rintro e w3 ⟨bb, rfl, h1, hb3⟩)
      go_ret
      exact ⟨bb, rfl, h1, HB.out.trans (hb3.mono HB.out.size)⟩
end Go.Proofs.Ytpjppolbkdnkaaa
