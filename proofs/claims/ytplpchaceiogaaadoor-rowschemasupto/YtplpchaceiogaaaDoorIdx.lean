/- indexed: of each column whether an index goes over it. -/
import Derived.Test.YtplpchaceiogaaaDoorTab
namespace Go.Proofs.YtplpchaceiogaaaDoor
open Go.RowKit
set_option linter.unusedVariables false
set_option linter.unusedSimpArgs false
set_option maxRecDepth 100000

theorem Below.setCell' {b : Nat} {w0 w : World} (h : Below b w0 w) (p : Addr) (u : Value) (hp : b ≤ p.block) : Below b w0 (w.setCell p u) :=
  ⟨h.os, h.tape, h.output, by have := h.size; simpa [World.setCell] using this, fun k hk => (Below.heap_setCell _ _ _ _ (fun e => by subst e; omega)).trans (h.block k hk)⟩
theorem Tryd.info4 : (Tryd.prog.info? 4).map (fun i => (i.zero, i.size, i.bytes)) = some (some (.bool false), 1, 1) := by kernel_rfl
theorem made_one (v : Value) (n : Nat) : madeCells #[v] n = (List.replicate n v).toArray := by
  refine Array.ext (by simp [madeCells]) fun i h1 h2 => ?_
  simp [madeCells, Nat.mod_one]
theorem make61 (n : Nat) (hn : n ≤ 2000000) (w : World) : (Instr.makeSlice 61 (.int .i64 (n : Int)) (.int .i64 (n : Int))).run Tryd.prog w = .ok (.slice (some ⟨w.heap.size, 0, none⟩) n n) (w.alloc (.cells (List.replicate n (.bool false)).toArray 4)) := by
  obtain ⟨i, hi, hz⟩ := Option.map_eq_some_iff.1 Tryd.info4
  simp only [Prod.mk.injEq] at hz
  obtain ⟨hz, hs, hb⟩ := hz
  have h := run_make (P := Tryd.prog) w 61 4 i _ Tryd.underlying61 hi hz .i64 .i64 n n (by omega) (by omega) (by rw [hb]; omega) (by omega)
  rw [h, hs, Int.toNat_natCast, Nat.mul_one]
  rw [show (Value.bool false).cells = #[.bool false] from rfl, made_one]
/-- A block of truths. -/
def Truths (w : World) (g : Nat) (bs : List Bool) : Prop := w.heap[g]? = some (.cells (bs.map Value.bool).toArray 4 (0, 0))
theorem Truths.below {B g : Nat} {w w' : World} {bs : List Bool} (h : Truths w g bs) (hb : Below B w w') (hg : g < B) : Truths w' g bs := (hb.block g hg).trans h
theorem Truths.belowW {g : Nat} {w w' : World} {bs : List Bool} (h : Truths w g bs) (hb : Below w.heap.size w w') : Truths w' g bs := (hb.block g (lt_of_heap h)).trans h
theorem Truths.cell {w : World} {g : Nat} {bs : List Bool} (h : Truths w g bs) (j : Nat) (hj : j < bs.length) : w.cell? ⟨g, j, none⟩ = some (.bool (bs.getD j false)) := by
  rw [cell_row h]
  simp [hj]
theorem Truths.set {w : World} {g : Nat} {bs : List Bool} (h : Truths w g bs) (j : Nat) (b : Bool) : Truths (w.setCell ⟨g, j, none⟩ (.bool b)) g (bs.set j b) := by
  unfold Truths
  rw [heap_set_same _ h]
  simp
def BsU (T : Tb) (k : Nat) (bs : List Bool) : Prop := bs.length = T.cols.length ∧ ∀ j, j < T.cols.length → bs.getD j false = (decide (j < k) && (T.cols.getD j Cl.zero).un)
def BsI (T : Tb) (k : Nat) (bs : List Bool) : Prop := bs.length = T.cols.length ∧ ∀ j, j < T.cols.length → bs.getD j false = ((T.cols.getD j Cl.zero).un || (T.idx.take k).any (fun x => x.col == (j : Int)))
theorem getD_set {bs : List Bool} {k j : Nat} {b : Bool} (hk : k < bs.length) : (bs.set k b).getD j false = if k = j then b else bs.getD j false := by
  simp only [List.getD_eq_getElem?_getD, List.getElem?_set]
  by_cases h : k = j
  · subst h; simp [hk]
  · simp [h]
theorem BsU.zero (T : Tb) : BsU T 0 (List.replicate T.cols.length false) := ⟨by simp, fun j hj => by simp [hj]⟩
theorem BsU.next {T : Tb} {k : Nat} {bs : List Bool} (h : BsU T k bs) (hk : k < T.cols.length) : BsU T (k + 1) (bs.set k (T.cols.getD k Cl.zero).un) := by
  refine ⟨by rw [List.length_set]; exact h.1, fun j hj => ?_⟩
  rw [getD_set (by rw [h.1]; exact hk)]
  by_cases e : k = j
  · subst e; simp
  · rw [if_neg e, h.2 j hj]
    have : decide (j < k + 1) = decide (j < k) := by apply decide_eq_decide.2; omega
    rw [this]
theorem BsU.done {T : Tb} {bs : List Bool} (h : BsU T T.cols.length bs) : BsI T 0 bs := ⟨h.1, fun j hj => by rw [h.2 j hj]; simp [hj]⟩
theorem any_take {T : Tb} {k : Nat} (hk : k < T.idx.length) (f : Ix → Bool) : (T.idx.take (k + 1)).any f = ((T.idx.take k).any f || f (T.idx.getD k Ix.zero)) := by
  rw [List.take_succ_eq_append_getElem hk, List.any_append]
  simp [hk]
theorem BsI.next {T : Tb} {k n : Nat} {bs : List Bool} (h : BsI T k bs) (hk : k < T.idx.length) (hc : (T.idx.getD k Ix.zero).col = (n : Int)) (hn : n < T.cols.length) : BsI T (k + 1) (bs.set n true) := by
  refine ⟨by rw [List.length_set]; exact h.1, fun j hj => ?_⟩
  rw [getD_set (by rw [h.1]; exact hn), any_take hk, hc]
  by_cases e : n = j
  · subst e; simp
  · rw [if_neg e, h.2 j hj]
    have : ((n : Int) == (j : Int)) = false := by simp; omega
    rw [this]
    simp
theorem BsI.skip {T : Tb} {k : Nat} {bs : List Bool} (h : BsI T k bs) (hk : k < T.idx.length) (hc : (T.idx.getD k Ix.zero).col < 0 ∨ (T.cols.length : Int) ≤ (T.idx.getD k Ix.zero).col) : BsI T (k + 1) bs := by
  refine ⟨h.1, fun j hj => ?_⟩
  rw [any_take hk, h.2 j hj]
  have : ((T.idx.getD k Ix.zero).col == (j : Int)) = false := beq_eq_false_iff_ne.2 (by omega)
  rw [this]
  simp
theorem BsI.done {T : Tb} {bs : List Bool} (h : BsI T T.idx.length bs) : bs.length = T.cols.length ∧ ∀ j, j < T.cols.length → bs.getD j false = hasAt T j := ⟨h.1, fun j hj => by rw [h.2 j hj, List.take_length]; rfl⟩
set_option maxHeartbeats 4000000 in
theorem index31 {w : World} {T : Tb} {p : Pl} (h : TbAt w T p) (hf : T.Few) :
    Calls Tryd.prog 31 #[.agg #[.string (strOf T.nm), .slice p.ca T.cols.length p.cc, .slice p.ia T.idx.length p.ic, .int .i64 T.head, .slice p.ra T.roots.length p.rc]] w fun e w' =>
      ∃ g bs, e = .returned (.slice (some ⟨g, 0, none⟩) T.cols.length T.cols.length) ∧ Truths w' g bs ∧ bs.length = T.cols.length ∧ (∀ j, j < T.cols.length → bs.getD j false = hasAt T j) ∧ Below w.heap.size w w' := by
  have H := hide h
  have hN := hf.cols
  have hM := hf.idx
  have HU0 := hide (BsU.zero T)
  have HUN : Hid (∀ k bs, BsU T k bs → k < T.cols.length → BsU T (k + 1) (bs.set k (T.cols.getD k Cl.zero).un)) := fun k bs h hk => h.next hk
  have HUD : Hid (∀ bs, BsU T T.cols.length bs → BsI T 0 bs) := fun bs h => h.done
  have HIN : Hid (∀ (k n : Nat) (bs : List Bool), BsI T k bs → k < T.idx.length → (T.idx.getD k Ix.zero).col = (n : Int) → n < T.cols.length → BsI T (k + 1) (bs.set n true)) := fun k n bs h h1 h2 h3 => h.next h1 h2 h3
  have HIS : Hid (∀ k bs, BsI T k bs → k < T.idx.length → ((T.idx.getD k Ix.zero).col < 0 ∨ (T.cols.length : Int) ≤ (T.idx.getD k Ix.zero).col) → BsI T (k + 1) bs) := fun k bs h h1 h2 => h.skip h1 h2
  have HID : Hid (∀ bs, BsI T T.idx.length bs → bs.length = T.cols.length ∧ ∀ j, j < T.cols.length → bs.getD j false = hasAt T j) := fun bs h => h.done
  have HCG : Hid (∀ W, Below w.heap.size w W → ∀ i, i < T.cols.length → ∃ g o, p.ca = some ⟨g, o, none⟩ ∧ ClAt W g (o + i * 4) (T.cols.getD i Cl.zero)) := fun W hW i hi => (show ClsAt W _ _ from Row.belowW H.out.cols hW).get i hi
  have HIG : Hid (∀ W, Below w.heap.size w W → ∀ i, i < T.idx.length → ∃ g o, p.ia = some ⟨g, o, none⟩ ∧ IxAt W g (o + i * 3) (T.idx.getD i Ix.zero)) := fun W hW i hi => (show IxsAt W _ _ from Row.belowW H.out.idx hW).get i hi
  have hlc : ∀ bs k, BsU T k bs → bs.length = T.cols.length := fun bs k h => h.1
  have hli : ∀ bs k, BsI T k bs → bs.length = T.cols.length := fun bs k h => h.1
  have HLC := hide hlc
  have HLI := hide hli
  clear hlc hli h hf
  generalize T.cols.length = n at *
  generalize T.idx.length = m at *
  generalize T.roots.length = r at *
  obtain ⟨ca, cc, ia, ic, ra, rc⟩ := p
  simp only at HCG HIG H ⊢
  obtain ⟨W0, hW0⟩ : ∃ W0, w.alloc (.cells #[.string (strOf T.nm), .slice ca n cc, .slice ia m ic, .int .i64 T.head, .slice ra r rc] 29) = W0 := ⟨_, rfl⟩
  have hx0 : W0.heap[w.heap.size]? = some (.cells #[.string (strOf T.nm), .slice ca n cc, .slice ia m ic, .int .i64 T.head, .slice ra r rc] 29 (0, 0)) := by rw [← hW0]; exact heap_alloc_new _ _
  have hb0 : Below w.heap.size w W0 := by rw [← hW0]; exact (Below.refl _ _).alloc (Nat.le_refl _) _
  have hmk := make61 n hN W0
  have HT0 : Hid (Truths (W0.alloc (.cells (List.replicate n (.bool false)).toArray 4)) W0.heap.size (List.replicate n false)) := by
    have : (List.replicate n (Value.bool false)) = (List.replicate n false).map Value.bool := by simp
    rw [this]
    exact heap_alloc_new _ _
  have HB1 : Hid (Below w.heap.size w (W0.alloc (.cells (List.replicate n (.bool false)).toArray 4))) := hb0.alloc hb0.size _
  have hx1 : (W0.alloc (.cells (List.replicate n (.bool false)).toArray 4)).heap[w.heap.size]? = some (.cells #[.string (strOf T.nm), .slice ca n cc, .slice ia m ic, .int .i64 T.head, .slice ra r rc] 29 (0, 0)) := (Below.heap_alloc _ _ _ (lt_of_heap hx0)).trans hx0
  have HX1 := hide hx1
  have a1 : W0.cell? ⟨w.heap.size, 1, none⟩ = some (.slice ca n cc) := by rw [cell_row hx0]; rfl
  have hgl := lt_of_heap hx0
  have hsz : w.heap.size < W0.heap.size := hgl
  clear hx0 hb0 hx1
  go_enter Tryd.func31, Tryd.ntmps31
  go_upto_region 1 with fail
  try rw [hW0]
  clear hW0
  generalize hq : w.heap.size = q at *
  have HQ := hide hq
  clear hq
  generalize W0.heap.size = g at *
  generalize W0.alloc (.cells (List.replicate n (.bool false)).toArray 4) = W1 at *
  have b1 : W1.cell? ⟨q, 1, none⟩ = some (.slice ca n cc) := by rw [cell_row HX1.out]; rfl
  go_wp2
  go_loopw [15] (fun i wr => ∃ (k : Nat) (bs : List Bool), k ≤ n ∧ i = .int .i64 (k : Int) ∧ BsU T k bs ∧ Truths wr g bs ∧ wr.heap[q]? = some (.cells #[.string (strOf T.nm), .slice ca n cc, .slice ia m ic, .int .i64 T.head, .slice ra r rc] 29 (0, 0)) ∧ Below q w wr) (fun i _ => n - (intOf i).toNat)
  case atStart => exact ⟨0, _, by omega, rfl, HU0.out, HT0.out, HX1.out, HB1.out⟩
  case round =>
    clear HT0 HX1 HB1 b1 a1 hmk
    obtain ⟨k, bs, hk, rfl, hU, hT, hX, hB⟩ := hrel
    have HU := hide hU
    have HT := hide hT
    have HX := hide hX
    have HB := hide hB
    have hbl : bs.length = n := HLC.out _ _ hU
    have hgl2 := lt_of_heap hT
    have hql2 := lt_of_heap hX
    clear hU hT hX hB
    by_cases hlt : k < n
    · obtain ⟨b, o, hao, hC⟩ := HCG.out wr HB.out k hlt
      subst hao
      obtain ⟨k0, k1, k2, k3⟩ := hC
      have hgb := World.block_lt_of_cell? wr _ k0
      have HBN := hide (HUN.out k bs HU.out hlt)
      generalize T.cols.getD k Cl.zero = C at *
      have HTA : Hid (∀ o, Truths (wr.alloc o) g bs) := fun o => HT.out.belowW ((Below.refl _ _).alloc (Nat.le_refl _) _)
      have hfz : ∀ o, (wr.alloc o).frozen? ⟨g, k, none⟩ = false := fun o => frozen_row (HTA.out o)
      have hcl : ∀ o, (wr.alloc o).cell? ⟨g, k, none⟩ = some (.bool (bs.getD k false)) := fun o => (HTA.out o).cell k (by rw [hbl]; exact hlt)
      go_wp2
      go_roundw
      case rel =>
        refine ⟨k + 1, _, by omega, by go_num, HBN.out, (HT.out.set k C.un).belowW ((Below.refl _ _).alloc (Nat.le_refl _) _), ?_, ?_⟩
        · rw [Below.heap_alloc _ _ _ (by simpa [World.setCell] using hql2), Below.heap_setCell _ _ _ _ (show q ≠ g by omega)]
          exact HX.out
        · exact (Below.setCell' HB.out ⟨g, k, none⟩ _ (show q ≤ g by omega)).alloc (by simp [World.setCell]; omega) _
      case measure => simp [intOf]; omega
    · have hkL : k = n := by omega
      subst hkL
      have HI0 := hide (HUD.out bs HU.out)
      have c2 : wr.cell? ⟨q, 2, none⟩ = some (.slice ia m ic) := by rw [cell_row HX.out]; rfl
      clear HU HUN HUD HU0 HCG
      go_wp2
      go_loopw [29] (fun i w2 => ∃ (j : Nat) (bs : List Bool), j ≤ m ∧ i = .int .i64 (j : Int) ∧ BsI T j bs ∧ Truths w2 g bs ∧ Below q w w2) (fun i _ => m - (intOf i).toNat)
      case atStart => exact ⟨0, _, by omega, rfl, HI0.out, HT.out, HB.out⟩
      case round =>
        clear HI0 HT HB HX c2 hbl hgl2 hql2
        obtain ⟨j, bs2, hj, rfl, hU, hT, hB⟩ := hrel
        have HU := hide hU
        have HT := hide hT
        have HB := hide hB
        have hbl : bs2.length = k := HLI.out _ _ hU
        have hgl2 := lt_of_heap hT
        clear hU hT hB
        by_cases hlt : j < m
        · obtain ⟨b, o, hao, hC⟩ := HIG.out _ HB.out j hlt
          subst hao
          obtain ⟨k0, k1, k2⟩ := hC
          have hgb := World.block_lt_of_cell? _ _ k0
          have HINj : Hid (∀ n : Nat, (T.idx.getD j Ix.zero).col = (n : Int) → n < k → BsI T (j + 1) (bs2.set n true)) := fun n h1 h2 => HIN.out j n bs2 HU.out hlt h1 h2
          have HISj : Hid (((T.idx.getD j Ix.zero).col < 0 ∨ (k : Int) ≤ (T.idx.getD j Ix.zero).col) → BsI T (j + 1) bs2) := fun h => HIS.out j bs2 HU.out hlt h
          generalize T.idx.getD j Ix.zero = X at *
          obtain ⟨xn, xc, xu⟩ := X
          simp only at k0 k1 k2 HINj HISj
          by_cases hc0 : xc < 0
          · have HNX := hide (HISj.out (.inl hc0))
            have hd : ¬ (0 : Int) ≤ xc := by omega
            clear hc0
            go_wp2
            go_roundw
            case rel => exact ⟨j + 1, _, by omega, by go_num, HNX.out, HT.out.belowW ((Below.refl _ _).alloc (Nat.le_refl _) _), HB.out.alloc (Nat.le_of_lt (Nat.lt_trans hsz hgl2)) _⟩
            case measure => simp [intOf]; omega
          · have hd : (0 : Int) ≤ xc := by omega
            by_cases hc1 : xc < (k : Int)
            · obtain ⟨n, rfl⟩ := Int.eq_ofNat_of_zero_le hd
              have hnk : n < k := by omega
              have HNX := hide (HINj.out n rfl hnk)
              have HTA : Hid (∀ o, Truths (wr.alloc o) g bs2) := fun o => HT.out.belowW ((Below.refl _ _).alloc (Nat.le_refl _) _)
              have hfz : ∀ o, (wr.alloc o).frozen? ⟨g, n, none⟩ = false := fun o => frozen_row (HTA.out o)
              have hcl : ∀ o, (wr.alloc o).cell? ⟨g, n, none⟩ = some (.bool (bs2.getD n false)) := fun o => (HTA.out o).cell n (by rw [hbl]; exact hnk)
              clear hc0
              go_wp2
              go_roundw
              case rel => exact ⟨j + 1, _, by omega, by go_num, HNX.out, (HT.out.set n true).belowW ((Below.refl _ _).alloc (Nat.le_refl _) _), (Below.setCell' HB.out ⟨g, n, none⟩ _ (show q ≤ g by omega)).alloc (by simp [World.setCell]; omega) _⟩
              case measure => simp [intOf]; omega
            · have HNX := hide (HISj.out (.inr (by omega)))
              go_wp2
              go_roundw
              case rel => exact ⟨j + 1, _, by omega, by go_num, HNX.out, HT.out.belowW ((Below.refl _ _).alloc (Nat.le_refl _) _), HB.out.alloc (Nat.le_of_lt (Nat.lt_trans hsz hgl2)) _⟩
              case measure => simp [intOf]; omega
        · have hjm : j = m := by omega
          subst hjm
          have HR := hide (HID.out bs2 HU.out)
          go_wp2
          go_ret
          exact ⟨g, bs2, rfl, HT.out, HR.out.1, HR.out.2, by rw [HQ.out]; exact HB.out⟩
end Go.Proofs.YtplpchaceiogaaaDoor
