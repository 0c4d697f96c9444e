/- Whether what two hold fits. -/
import Derived.Test.YtffjdjbjkjefoaaTak
import Derived.Test.YtffjdjbjkjefoaaSrw
namespace Go.Proofs.Ytffjdjbjkjefoaa
open Go.RowKit Go.WideAt
set_option linter.unusedVariables false
set_option linter.unusedSimpArgs false

theorem strOf_list (s : List UInt8) : (strOf s).toList = s := by
  rw [ByteArray.toList_eq]
  rfl
theorem beq_str (a b : List UInt8) : ((strOf a).toList == (strOf b).toList) = decide (a = b) := by
  rw [strOf_list, strOf_list]
  by_cases e : a = b
  · subst e; simp
  · simp [e]
theorem op_eqlstr (ρ : Operand → Value) (o : Oper) (x y : Operand) (tt : TypeId) (ho : o.op = .binOp .eql 9 x y tt) (a b : List UInt8) (hx : ρ x = .string (strOf a)) (hy : ρ y = .string (strOf b)) (r : Bool) (hr : decide (a = b) = r) {w : World} : (execOp ρ o).run Try.prog w = .ok (.value (.bool r)) w := by
  have hu := Try.underlying9
  have he := beq_str a b
  unfold execOp
  simp only [ho, hx, hy]
  simp [go_sem, hu, he, hr]
theorem run_index22 (w : World) (g o n cap i : Nat) (h : i < n) : (Instr.indexAt 22 (.slice (some ⟨g, o, none⟩) n cap) (.int .i64 (i : Int))).run Try.prog w = .ok (.pointer (some ⟨g, o + i * 2, none⟩)) w := by
  have hu := Try.underlying22
  have hs := Try.sizeOf31
  simp [go_sem, hu, hs, h]
theorem flatW_at : ∀ (L : List (List UInt8 × Int)) (i : Nat) (x : List UInt8 × Int), L[i]? = some x → (flatW L)[i * 2]? = some (scell x.1) ∧ (flatW L)[i * 2 + 1]? = some (.int .i64 x.2)
  | [], i, x, h => by simp at h
  | y :: L, 0, x, h => by
    simp at h
    subst h
    exact ⟨rfl, rfl⟩
  | y :: L, i + 1, x, h => by
    have h' : L[i]? = some x := by simpa using h
    obtain ⟨h1, h2⟩ := flatW_at L i x h'
    have e : flatW (y :: L) = scell y.1 :: .int .i64 y.2 :: flatW L := rfl
    rw [e, show (i + 1) * 2 = i * 2 + 1 + 1 by omega]
    exact ⟨by simpa using h1, by simpa using h2⟩
/-- Wants that may be read. -/
def Wl (w : World) (ao : Option Addr) (L : List (List UInt8 × Int)) : Prop := ∀ (i : Nat) (x : List UInt8 × Int), L[i]? = some x → ∃ g o, ao = some ⟨g, o, none⟩ ∧ w.cell? ⟨g, o + i * 2, none⟩ = some (scell x.1) ∧ w.cell? ⟨g, o + i * 2 + 1, none⟩ = some (.int .i64 x.2)
theorem Wl.belowW {w w' : World} {ao : Option Addr} {L : List (List UInt8 × Int)} (h : Wl w ao L) (hb : Below w.heap.size w w') : Wl w' ao L := fun i x hx => by
  obtain ⟨g, o, e, h1, h2⟩ := h i x hx
  exact ⟨g, o, e, (hb.cell (p := ⟨g, o + i * 2, none⟩) (World.block_lt_of_cell? _ _ h1)).trans h1, (hb.cell (p := ⟨g, o + i * 2 + 1, none⟩) (World.block_lt_of_cell? _ _ h2)).trans h2⟩
theorem Wl.of_owns {w : World} {base : Nat} {ao : Option Addr} {n c : Nat} {L : List (List UInt8 × Int)} (h : w.ownsRow base 31 2 (.slice ao n c) L.length (flatW L)) : Wl w ao L := fun i x hx => by
  obtain ⟨ao', c', e, h1, h2, h3⟩ := Row.of_owns h
  injection e with e1 e2 e3
  subst e1
  obtain ⟨p, q⟩ := flatW_at L i x hx
  obtain ⟨g, o, ea, hr⟩ := h3 (fun h0 => by rw [h0] at p; simp at p)
  exact ⟨g, o, ea, hr _ _ p, by have := hr _ _ q; rwa [← Nat.add_assoc] at this⟩
set_option maxRecDepth 100000 in
set_option maxHeartbeats 4000000 in
theorem apart_any {w : World} {ao ap : Option Addr} {c d : Nat} {L K : List (List UInt8 × Int)} (hL : Wl w ao L) (hK : Wl w ap K) (bL : L.length ≤ 1000000000000000) (bK : K.length ≤ 1000000000000000) (hf : ∀ x ∈ L, ∀ y ∈ K, x.1 = y.1 → fits x.2 y.2 = true) :
    Calls Try.prog 26 #[.slice ao L.length c, .slice ap K.length d] w fun e w' => e = .returned (.bool true) ∧ Below w.heap.size w w' := by
  have HL := hide hL
  have HK := hide hK
  have HFT := hide hf
  have HF : Hid (∀ a b w, Calls Try.prog 15 #[.int .i64 a, .int .i64 b] w fun e w' => e = .returned (.bool (fits a b)) ∧ Below w.heap.size w w') := fits_any
  clear hL hK hf
  obtain ⟨n, hn⟩ : ∃ n, L.length = n := ⟨_, rfl⟩
  obtain ⟨m, hm⟩ : ∃ m, K.length = m := ⟨_, rfl⟩
  rw [hn] at bL ⊢
  rw [hm] at bK ⊢
  have HN := hide hn
  have HM := hide hm
  clear hn hm
  go_enter Try.func26, Try.ntmps26
  go_upto_region 2 with fail
  go_loopw [5] (fun i wr => ∃ k : Nat, k ≤ n ∧ i = .int .i64 (k : Int) ∧ Below w.heap.size w wr) (fun i _ => n - (intOf i).toNat)
  case atStart => exact ⟨0, by omega, rfl, Below.refl _ _⟩
  case round =>
    obtain ⟨k, hk, rfl, hB⟩ := hrel
    have HB := hide hB
    clear hB
    by_cases hlt : k < n
    · have i1 : (k : Int) < (n : Int) := by omega
      go_upto_region 5 with fail
      obtain ⟨wo, hwo⟩ : ∃ wo : World, wo = wr := ⟨_, rfl⟩
      rw [← hwo] at HB ⊢
      clear hwo
      clear wr
      go_loopw [6] (fun i wr => ∃ j : Nat, j ≤ m ∧ i = .int .i64 (j : Int) ∧ Below w.heap.size w wr) (fun i _ => m - (intOf i).toNat)
      case atStart => exact ⟨0, by omega, rfl, HB.out⟩
      case round =>
        obtain ⟨j, hj, rfl, hB⟩ := hrel
        have HB2 := hide hB
        clear hB
        by_cases hlj : j < m
        · have i2 : (j : Int) < (m : Int) := by omega
          obtain ⟨x, hx⟩ : ∃ x, L[k]? = some x := ⟨_, List.getElem?_eq_getElem (by rw [HN.out]; exact hlt)⟩
          obtain ⟨y, hy⟩ : ∃ y, K[j]? = some y := ⟨_, List.getElem?_eq_getElem (by rw [HM.out]; exact hlj)⟩
          obtain ⟨g, oo, hao, hx1, hx2⟩ := HL.out k x hx
          obtain ⟨q, pp, hap, hy1, hy2⟩ := HK.out j y hy
          subst hao hap
          have HXY := hide (HFT.out x (List.mem_of_getElem? hx) y (List.mem_of_getElem? hy))
          have HCX1 : Hid (∀ W, Below w.heap.size w W → W.cell? ⟨g, oo + k * 2, none⟩ = some (scell x.1)) := fun W hW => (hW.cell (p := ⟨g, oo + k * 2, none⟩) (World.block_lt_of_cell? _ _ hx1)).trans hx1
          have HCX2 : Hid (∀ W, Below w.heap.size w W → W.cell? ⟨g, oo + k * 2 + 1, none⟩ = some (.int .i64 x.2)) := fun W hW => (hW.cell (p := ⟨g, oo + k * 2 + 1, none⟩) (World.block_lt_of_cell? _ _ hx2)).trans hx2
          have HCY1 : Hid (∀ W, Below w.heap.size w W → W.cell? ⟨q, pp + j * 2, none⟩ = some (scell y.1)) := fun W hW => (hW.cell (p := ⟨q, pp + j * 2, none⟩) (World.block_lt_of_cell? _ _ hy1)).trans hy1
          have HCY2 : Hid (∀ W, Below w.heap.size w W → W.cell? ⟨q, pp + j * 2 + 1, none⟩ = some (.int .i64 y.2)) := fun W hW => (hW.cell (p := ⟨q, pp + j * 2 + 1, none⟩) (World.block_lt_of_cell? _ _ hy2)).trans hy2
          have HK1 := hide hlt
          have HJ1 := hide hlj
          clear hx hy hx1 hx2 hy1 hy2
          obtain ⟨s, a⟩ := x
          obtain ⟨t, b⟩ := y
          change Hid (s = t → fits a b = true) at HXY
          go_upto_region 7 with fail
          have hd : Below w.heap.size w wr.drew := HB2.out.trans (below_drewN _ _ 1)
          refine wp_region_held_drew (S := fun W => Below w.heap.size w W) (by kernel_rfl) hd (fun hH => ?_)
          refine take_to 0 19 (.slice (some ⟨g, oo, none⟩) n c) rfl (by kernel_rfl) (by kernel_rfl) (by kernel_rfl) (fun _ _ _ h => h) rfl (by rfl) (fun w hw => by rfl) hH ?_
          simp only [Act.put, List.setIfInBounds_toArray, List.set_cons_zero, List.set_cons_succ]
          refine take_to 1 20 (.int .i64 (k : Int)) rfl (by kernel_rfl) (by kernel_rfl) (by kernel_rfl) (fun _ _ _ h => h) rfl (by rfl) (fun w hw => by rfl) hH ?_
          simp only [Act.put, List.setIfInBounds_toArray, List.set_cons_zero, List.set_cons_succ]
          refine take_to 2 21 (.pointer (some ⟨g, oo + k * 2, none⟩)) rfl (by kernel_rfl) (by kernel_rfl) (by kernel_rfl) (fun _ _ _ h => h) rfl (by rfl) (fun w hw => op_index _ _ 22 (.tmp 19) (.tmp 20) rfl (.slice (some ⟨g, oo, none⟩) n c) (.int .i64 (k : Int)) _ rfl rfl (run_index22 w _ _ _ _ k HK1.out)) hH ?_
          simp only [Act.put, List.setIfInBounds_toArray, List.set_cons_zero, List.set_cons_succ]
          refine take_to 3 22 (.pointer (some ⟨g, oo + k * 2, none⟩)) rfl (by kernel_rfl) (by kernel_rfl) (by kernel_rfl) (fun _ _ _ h => h) rfl (by rfl) (fun w hw => by rfl) hH ?_
          simp only [Act.put, List.setIfInBounds_toArray, List.set_cons_zero, List.set_cons_succ]
          refine take_to 4 23 (scell s) rfl (by kernel_rfl) (by kernel_rfl) (by kernel_rfl) (fun _ _ _ h => h) rfl (by rfl) (fun w hw => op_load _ _ 9 (.tmp 22) rfl (.pointer (some ⟨g, oo + k * 2, none⟩)) _ rfl (run_loadAny w _ _ 9 _ Try.isAgg9 (HCX1.out w hw))) hH ?_
          simp only [Act.put, List.setIfInBounds_toArray, List.set_cons_zero, List.set_cons_succ]
          refine take_to 5 24 (.slice (some ⟨q, pp, none⟩) m d) rfl (by kernel_rfl) (by kernel_rfl) (by kernel_rfl) (fun _ _ _ h => h) rfl (by rfl) (fun w hw => by rfl) hH ?_
          simp only [Act.put, List.setIfInBounds_toArray, List.set_cons_zero, List.set_cons_succ]
          refine take_to 6 25 (.int .i64 (j : Int)) rfl (by kernel_rfl) (by kernel_rfl) (by kernel_rfl) (fun _ _ _ h => h) rfl (by rfl) (fun w hw => by rfl) hH ?_
          simp only [Act.put, List.setIfInBounds_toArray, List.set_cons_zero, List.set_cons_succ]
          refine take_to 7 26 (.pointer (some ⟨q, pp + j * 2, none⟩)) rfl (by kernel_rfl) (by kernel_rfl) (by kernel_rfl) (fun _ _ _ h => h) rfl (by rfl) (fun w hw => op_index _ _ 22 (.tmp 24) (.tmp 25) rfl (.slice (some ⟨q, pp, none⟩) m d) (.int .i64 (j : Int)) _ rfl rfl (run_index22 w _ _ _ _ j HJ1.out)) hH ?_
          simp only [Act.put, List.setIfInBounds_toArray, List.set_cons_zero, List.set_cons_succ]
          refine take_to 8 27 (.pointer (some ⟨q, pp + j * 2, none⟩)) rfl (by kernel_rfl) (by kernel_rfl) (by kernel_rfl) (fun _ _ _ h => h) rfl (by rfl) (fun w hw => by rfl) hH ?_
          simp only [Act.put, List.setIfInBounds_toArray, List.set_cons_zero, List.set_cons_succ]
          refine take_to 9 28 (scell t) rfl (by kernel_rfl) (by kernel_rfl) (by kernel_rfl) (fun _ _ _ h => h) rfl (by rfl) (fun w hw => op_load _ _ 9 (.tmp 27) rfl (.pointer (some ⟨q, pp + j * 2, none⟩)) _ rfl (run_loadAny w _ _ 9 _ Try.isAgg9 (HCY1.out w hw))) hH ?_
          simp only [Act.put, List.setIfInBounds_toArray, List.set_cons_zero, List.set_cons_succ]
          by_cases hst : s = t
          · skip
            refine take_to 10 29 (.bool true) rfl (by kernel_rfl) (by kernel_rfl) (by kernel_rfl) (fun _ _ _ h => h) rfl (by rfl) (fun w hw => op_eqlstr _ _ (.tmp 23) (.tmp 28) _ rfl s t rfl rfl true (decide_eq_true hst)) hH ?_
            simp only [Act.put, List.setIfInBounds_toArray, List.set_cons_zero, List.set_cons_succ]
            refine take_to 11 30 (.bool true) rfl (by kernel_rfl) (by kernel_rfl) (by kernel_rfl) (fun _ _ _ h => h) rfl (by rfl) (fun w hw => by rfl) hH ?_
            simp only [Act.put, List.setIfInBounds_toArray, List.set_cons_zero, List.set_cons_succ]
            refine take_to 12 31 (.slice (some ⟨g, oo, none⟩) n c) rfl (by kernel_rfl) (by kernel_rfl) (by kernel_rfl) (fun _ _ _ h => h) rfl (by rfl) (fun w hw => by rfl) hH ?_
            simp only [Act.put, List.setIfInBounds_toArray, List.set_cons_zero, List.set_cons_succ]
            refine take_to 13 32 (.int .i64 (k : Int)) rfl (by kernel_rfl) (by kernel_rfl) (by kernel_rfl) (fun _ _ _ h => h) rfl (by rfl) (fun w hw => by rfl) hH ?_
            simp only [Act.put, List.setIfInBounds_toArray, List.set_cons_zero, List.set_cons_succ]
            refine take_to 14 33 (.pointer (some ⟨g, oo + k * 2, none⟩)) rfl (by kernel_rfl) (by kernel_rfl) (by kernel_rfl) (fun _ _ _ h => h) rfl (by rfl) (fun w hw => op_index _ _ 22 (.tmp 31) (.tmp 32) rfl (.slice (some ⟨g, oo, none⟩) n c) (.int .i64 (k : Int)) _ rfl rfl (run_index22 w _ _ _ _ k HK1.out)) hH ?_
            simp only [Act.put, List.setIfInBounds_toArray, List.set_cons_zero, List.set_cons_succ]
            refine take_to 15 34 (.pointer (some ⟨g, oo + k * 2 + 1, none⟩)) rfl (by kernel_rfl) (by kernel_rfl) (by kernel_rfl) (fun _ _ _ h => h) rfl (by rfl) (fun w hw => by rfl) hH ?_
            simp only [Act.put, List.setIfInBounds_toArray, List.set_cons_zero, List.set_cons_succ]
            refine take_to 16 35 (.int .i64 a) rfl (by kernel_rfl) (by kernel_rfl) (by kernel_rfl) (fun _ _ _ h => h) rfl (by rfl) (fun w hw => op_load _ _ 3 (.tmp 34) rfl (.pointer (some ⟨g, oo + k * 2 + 1, none⟩)) _ rfl (run_loadAny w _ _ 3 _ Try.isAgg3 (HCX2.out w hw))) hH ?_
            simp only [Act.put, List.setIfInBounds_toArray, List.set_cons_zero, List.set_cons_succ]
            refine take_to 17 36 (.slice (some ⟨q, pp, none⟩) m d) rfl (by kernel_rfl) (by kernel_rfl) (by kernel_rfl) (fun _ _ _ h => h) rfl (by rfl) (fun w hw => by rfl) hH ?_
            simp only [Act.put, List.setIfInBounds_toArray, List.set_cons_zero, List.set_cons_succ]
            refine take_to 18 37 (.int .i64 (j : Int)) rfl (by kernel_rfl) (by kernel_rfl) (by kernel_rfl) (fun _ _ _ h => h) rfl (by rfl) (fun w hw => by rfl) hH ?_
            simp only [Act.put, List.setIfInBounds_toArray, List.set_cons_zero, List.set_cons_succ]
            refine take_to 19 38 (.pointer (some ⟨q, pp + j * 2, none⟩)) rfl (by kernel_rfl) (by kernel_rfl) (by kernel_rfl) (fun _ _ _ h => h) rfl (by rfl) (fun w hw => op_index _ _ 22 (.tmp 36) (.tmp 37) rfl (.slice (some ⟨q, pp, none⟩) m d) (.int .i64 (j : Int)) _ rfl rfl (run_index22 w _ _ _ _ j HJ1.out)) hH ?_
            simp only [Act.put, List.setIfInBounds_toArray, List.set_cons_zero, List.set_cons_succ]
            refine take_to 20 39 (.pointer (some ⟨q, pp + j * 2 + 1, none⟩)) rfl (by kernel_rfl) (by kernel_rfl) (by kernel_rfl) (fun _ _ _ h => h) rfl (by rfl) (fun w hw => by rfl) hH ?_
            simp only [Act.put, List.setIfInBounds_toArray, List.set_cons_zero, List.set_cons_succ]
            refine take_to 21 40 (.int .i64 b) rfl (by kernel_rfl) (by kernel_rfl) (by kernel_rfl) (fun _ _ _ h => h) rfl (by rfl) (fun w hw => op_load _ _ 3 (.tmp 39) rfl (.pointer (some ⟨q, pp + j * 2 + 1, none⟩)) _ rfl (run_loadAny w _ _ 3 _ Try.isAgg3 (HCY2.out w hw))) hH ?_
            simp only [Act.put, List.setIfInBounds_toArray, List.set_cons_zero, List.set_cons_succ]
            refine step_call2_to 22 41 15 rfl (by kernel_rfl) rfl (by rfl) (.tmp 35) (.tmp 40) _ rfl _ _ rfl rfl Try.enters15 (HF.out a b _) ?_
            rintro e W3 ⟨rfl, hb3⟩
            have hH := hH.trans (hb3.mono hH.size)
            refine ⟨_, rfl, hH, ?_⟩
            simp only [Act.put, List.setIfInBounds_toArray, List.set_cons_zero, List.set_cons_succ]
            rw [HXY.out hst]
            refine take_to 23 42 (.bool false) rfl (by kernel_rfl) (by kernel_rfl) (by kernel_rfl) (fun _ _ _ h => h) rfl (by rfl) (fun w hw => by rfl) hH ?_
            simp only [Act.put, List.setIfInBounds_toArray, List.set_cons_zero, List.set_cons_succ]
            refine take_to 24 43 (.bool false) rfl (by kernel_rfl) (by kernel_rfl) (by kernel_rfl) (fun _ _ _ h => h) rfl (by rfl) (fun w hw => by rfl) hH ?_
            simp only [Act.put, List.setIfInBounds_toArray, List.set_cons_zero, List.set_cons_succ]
            refine wpAnyH_done (by kernel_rfl) ?_ _
            have HE := hide hH
            clear hH hd
            go_wp2
            refine ⟨⟨j + 1, by have := HJ1.out; omega, by go_num, HE.out⟩, ?_⟩
            have := HJ1.out
            simp [intOf]
            omega
          · skip
            refine take_to 10 29 (.bool false) rfl (by kernel_rfl) (by kernel_rfl) (by kernel_rfl) (fun _ _ _ h => h) rfl (by rfl) (fun w hw => op_eqlstr _ _ (.tmp 23) (.tmp 28) _ rfl s t rfl rfl false (decide_eq_false hst)) hH ?_
            simp only [Act.put, List.setIfInBounds_toArray, List.set_cons_zero, List.set_cons_succ]
            refine take_to 11 30 (.bool false) rfl (by kernel_rfl) (by kernel_rfl) (by kernel_rfl) (fun _ _ _ h => h) rfl (by rfl) (fun w hw => by rfl) hH ?_
            simp only [Act.put, List.setIfInBounds_toArray, List.set_cons_zero, List.set_cons_succ]
            refine skip_to 12 31 rfl (by kernel_rfl) (by kernel_rfl) (by kernel_rfl) (fun _ _ _ h => h) rfl (by rfl) hH ?_
            simp only [Act.put, List.setIfInBounds_toArray, List.set_cons_zero, List.set_cons_succ]
            refine skip_to 13 32 rfl (by kernel_rfl) (by kernel_rfl) (by kernel_rfl) (fun _ _ _ h => h) rfl (by rfl) hH ?_
            simp only [Act.put, List.setIfInBounds_toArray, List.set_cons_zero, List.set_cons_succ]
            refine skip_to 14 33 rfl (by kernel_rfl) (by kernel_rfl) (by kernel_rfl) (fun _ _ _ h => h) rfl (by rfl) hH ?_
            simp only [Act.put, List.setIfInBounds_toArray, List.set_cons_zero, List.set_cons_succ]
            refine skip_to 15 34 rfl (by kernel_rfl) (by kernel_rfl) (by kernel_rfl) (fun _ _ _ h => h) rfl (by rfl) hH ?_
            simp only [Act.put, List.setIfInBounds_toArray, List.set_cons_zero, List.set_cons_succ]
            refine skip_to 16 35 rfl (by kernel_rfl) (by kernel_rfl) (by kernel_rfl) (fun _ _ _ h => h) rfl (by rfl) hH ?_
            simp only [Act.put, List.setIfInBounds_toArray, List.set_cons_zero, List.set_cons_succ]
            refine skip_to 17 36 rfl (by kernel_rfl) (by kernel_rfl) (by kernel_rfl) (fun _ _ _ h => h) rfl (by rfl) hH ?_
            simp only [Act.put, List.setIfInBounds_toArray, List.set_cons_zero, List.set_cons_succ]
            refine skip_to 18 37 rfl (by kernel_rfl) (by kernel_rfl) (by kernel_rfl) (fun _ _ _ h => h) rfl (by rfl) hH ?_
            simp only [Act.put, List.setIfInBounds_toArray, List.set_cons_zero, List.set_cons_succ]
            refine skip_to 19 38 rfl (by kernel_rfl) (by kernel_rfl) (by kernel_rfl) (fun _ _ _ h => h) rfl (by rfl) hH ?_
            simp only [Act.put, List.setIfInBounds_toArray, List.set_cons_zero, List.set_cons_succ]
            refine skip_to 20 39 rfl (by kernel_rfl) (by kernel_rfl) (by kernel_rfl) (fun _ _ _ h => h) rfl (by rfl) hH ?_
            simp only [Act.put, List.setIfInBounds_toArray, List.set_cons_zero, List.set_cons_succ]
            refine skip_to 21 40 rfl (by kernel_rfl) (by kernel_rfl) (by kernel_rfl) (fun _ _ _ h => h) rfl (by rfl) hH ?_
            simp only [Act.put, List.setIfInBounds_toArray, List.set_cons_zero, List.set_cons_succ]
            refine skip_to 22 41 rfl (by kernel_rfl) (by kernel_rfl) (by kernel_rfl) (fun _ _ _ h => h) rfl (by rfl) hH ?_
            simp only [Act.put, List.setIfInBounds_toArray, List.set_cons_zero, List.set_cons_succ]
            refine skip_to 23 42 rfl (by kernel_rfl) (by kernel_rfl) (by kernel_rfl) (fun _ _ _ h => h) rfl (by rfl) hH ?_
            simp only [Act.put, List.setIfInBounds_toArray, List.set_cons_zero, List.set_cons_succ]
            refine take_to 24 43 (.bool false) rfl (by kernel_rfl) (by kernel_rfl) (by kernel_rfl) (fun _ _ _ h => h) rfl (by rfl) (fun w hw => by rfl) hH ?_
            simp only [Act.put, List.setIfInBounds_toArray, List.set_cons_zero, List.set_cons_succ]
            refine wpAnyH_done (by kernel_rfl) ?_ _
            have HE := hide hH
            clear hH hd
            go_wp2
            refine ⟨⟨j + 1, by have := HJ1.out; omega, by go_num, HE.out⟩, ?_⟩
            have := HJ1.out
            simp [intOf]
            omega
        · obtain rfl : j = m := by omega
          go_wp2
          refine ⟨⟨k + 1, by omega, by go_num, HB2.out⟩, ?_⟩
          simp [intOf]
          omega
    · obtain rfl : k = n := by omega
      go_wp2
      go_ret
      exact ⟨rfl, HB.out⟩
end Go.Proofs.Ytffjdjbjkjefoaa
