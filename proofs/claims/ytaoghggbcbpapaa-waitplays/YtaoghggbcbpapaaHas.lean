/- The document's side: has, Without; edges handed over. -/
import Derived.Test.YtaoghggbcbpapaaPth
namespace Go.Proofs.Ytaoghggbcbpapaa
open Go.RowKit
set_option linter.unusedVariables false
set_option linter.unusedSimpArgs false

set_option maxHeartbeats 1000000 in
theorem has_any {w : World} {v : Value} {l : List Int} (h : Row w v l.length (l.map icell)) (hl : l.length ≤ 2000000) (x : Int) :
    Calls Try.prog 25 #[v, .int .i64 x] w fun e w' => e = .returned (.bool (l.contains x)) ∧ w' = w := by
  obtain ⟨a, c, rfl, hcell⟩ := int_cells h
  have HC := hide hcell
  obtain ⟨n, hn⟩ : ∃ n, l.length = n := ⟨_, rfl⟩
  have HN := hide hn
  obtain ⟨rb, hrb⟩ : ∃ b, l.contains x = b := ⟨_, rfl⟩
  have HRB := hide hrb
  rw [hrb]
  rw [hn] at hl ⊢
  clear h hcell hn hrb
  go_enter Try.func25, Try.ntmps25
  go_wp2
  go_loop [5] (fun i => ∃ k : Nat, k ≤ n ∧ i = .int .i64 k ∧ x ∉ l.take k) (fun i => n - (intOf i).toNat)
  case atStart => exact ⟨0, by omega, rfl, by simp⟩
  case round =>
    obtain ⟨k, hk, rfl, hx⟩ := hrel
    have HX := hide hx
    clear hx
    by_cases hlt : k < n
    · obtain ⟨y, hy⟩ : ∃ y, l[k]? = some y := ⟨_, List.getElem?_eq_getElem (by rw [HN.out]; exact hlt)⟩
      obtain ⟨g, o, rfl, _, hcy⟩ := HC.out k y hy
      have HTK : Hid (l.take (k + 1) = l.take k ++ [y]) := take_snoc hy
      have HY : Hid (y ∈ l) := List.mem_of_getElem? hy
      clear hy
      by_cases e : y = x
      · have hb : (y == x) = true := by simp [e]
        have HR : Hid (l.contains x = true) := by
          show _ = _
          rw [List.contains_iff_mem, ← e]
          exact HY.out
        clear e
        go_wp2
        go_ret
        have hfin := HRB.out.symm.trans HR.out
        exact ⟨by rw [hfin]; rfl, rfl⟩
      · have hb : (y == x) = false := by simp [e]
        have HX2 : Hid (x ∉ l.take (k + 1)) := by
          rw [HTK.out]
          intro h
          rcases List.mem_append.1 h with h | h
          · exact HX.out h
          · rw [List.mem_singleton] at h; exact e h.symm
        clear e
        go_wp2
        go_round
        case rel => exact ⟨k + 1, by omega, by go_num, HX2.out⟩
        case measure => simp [intOf]; omega
    · have HR : Hid (l.contains x = false) := by
        have h := HX.out
        rw [List.take_of_length_le (by rw [HN.out]; omega)] at h
        show _ = _
        cases hc : l.contains x with
        | false => rfl
        | true => exact absurd (List.contains_iff_mem.1 hc) h
      go_wp2
      go_ret
      have hfin := HRB.out.symm.trans HR.out
      exact ⟨by rw [hfin]; rfl, rfl⟩
theorem run_buildS52 (w : World) (a b : Int) : (Instr.buildSlice 33 1 #[(0, .agg #[.int .i64 a, .int .i64 b])]).run Try.prog w = .ok (.slice (some ⟨w.heap.size, 0, none⟩) 1 1) (w.alloc (.cells #[.int .i64 a, .int .i64 b] 52)) := by kernel_rfl
theorem without_snoc (E : List (Int × Int)) (x p q : Int) : without (E ++ [(p, q)]) x = if (p != x && q != x) = true then without E x ++ [(p, q)] else without E x := by
  unfold without
  rw [List.filter_append, List.filter_cons]
  by_cases h : (p != x && q != x) = true
  · rw [if_pos h, if_pos h]; rfl
  · rw [if_neg h, if_neg h]; simp
theorem without_len (E : List (Int × Int)) (x : Int) : (without E x).length ≤ E.length := List.length_filter_le _ _
set_option maxHeartbeats 2000000 in
set_option maxRecDepth 100000 in
theorem rwithout_any {w : World} {a : Option Addr} {c : Nat} {E : List (Int × Int)} (hE : EdgesAt w a E) (x : Int) :
    Calls Try.prog 16 #[.slice a E.length c, .int .i64 x] w fun e w' => ∃ v, e = .returned v ∧ w'.ownsRow w.heap.size 52 2 v (without E x).length (ecells (without E x)) ∧ Below w.heap.size w w' := by
  have HE := hide hE
  have hlen := hE.len
  obtain ⟨n, hn⟩ : ∃ n, E.length = n := ⟨_, rfl⟩
  have HN := hide hn
  rw [hn] at hlen ⊢
  clear hn hE
  have hb2 := run_buildS52
  go_enter Try.func16, Try.ntmps16
  go_wp2
  go_loopw [5, 6] (fun v i wr => ∃ (k : Nat) (F : List (Int × Int)), k ≤ n ∧ i = .int .i64 k ∧ F = without (E.take k) x ∧ wr.ownsRow w.heap.size 52 2 v F.length (ecells F) ∧ Below w.heap.size w wr) (fun _ i _ => n - (intOf i).toNat)
  case atStart => exact ⟨0, [], by omega, rfl, by simp [without], ⟨rfl, .inl ⟨rfl, rfl⟩⟩, Below.refl _ _⟩
  case round =>
    obtain ⟨k, F, hk, rfl, hF, hrow, hB⟩ := hrel
    have hFl : F.length ≤ k := by
      have h1 := without_len (E.take k) x
      have h2 := List.length_take_le k E
      rw [hF]
      omega
    have HF := hide hF
    have HROW := hide hrow
    have HB := hide hB
    clear hF hrow hB
    by_cases hlt : k < n
    · obtain ⟨⟨p, q⟩, hx⟩ : ∃ x, E[k]? = some x := ⟨_, List.getElem?_eq_getElem (by rw [HN.out]; exact hlt)⟩
      obtain ⟨b, o, hab, hbl, hrg⟩ := HE.out.at' k _ hx
      subst hab
      have HRG : Hid (wr.rangeAt b (o + k * 2) [.int .i64 p, .int .i64 q]) := fun j v hv => (HB.out.cell (p := ⟨b, o + k * 2 + j, none⟩) hbl).trans (hrg j v hv)
      have hc0 : wr.cell? ⟨b, o + k * 2, none⟩ = some (.int .i64 p) := HRG.out 0 _ rfl
      have hc1 : wr.cell? ⟨b, o + k * 2 + 1, none⟩ = some (.int .i64 q) := HRG.out 1 _ rfl
      have HTK : Hid (E.take (k + 1) = E.take k ++ [(p, q)]) := take_snoc hx
      have HAS := hide (without_snoc (E.take k) x p q)
      clear hrg hx
      cases hp : (p != x) with
      | false =>
        rw [hp] at HAS
        go_wp2
        go_roundw
        case rel => exact ⟨k + 1, F, by omega, by go_num, by rw [HTK.out, HAS.out, HF.out]; rfl, HROW.out, HB.out⟩
        case measure => simp [intOf]; omega
      | true =>
        rw [hp] at HAS
        cases hq : (q != x) with
        | false =>
          rw [hq] at HAS
          go_wp2
          go_roundw
          case rel => exact ⟨k + 1, F, by omega, by go_num, by rw [HTK.out, HAS.out, HF.out]; rfl, HROW.out, HB.out⟩
          case measure => simp [intOf]; omega
        | true =>
          rw [hq] at HAS
          have HR2 := hide (row_new wr 52 [.int .i64 p, .int .i64 q] 1 (by omega))
          have HB2 : Hid (Below w.heap.size w (wr.alloc (.cells #[.int .i64 p, .int .i64 q] 52))) := HB.out.trans ((Below.refl _ wr).alloc HB.out.size _)
          have HO2 : Hid ((wr.alloc (.cells #[.int .i64 p, .int .i64 q] 52)).ownsRow w.heap.size 52 2 u5 F.length (ecells F)) := owns_below HROW.out ((Below.refl _ wr).alloc (Nat.le_refl _) _) (Nat.le_refl _)
          go_wp2_with (first
            | (refine wpList_load_mid rfl 52 _ rfl b (o + k * 2) rfl [.int .i64 p, .int .i64 q] _ HRG.out Try.underlying52 rfl Try.size52 ?_)
            | (refine wpList_append_row rfl (.tmp 29) (.tmp 34) 33 rfl w.heap.size 52 (.agg #[.int .i64 0, .int .i64 0]) 2 16 Try.underlying33 Try.info52 rfl (by omega) _ _ _ _ 1 _ rfl rfl HO2.out HR2.out rfl (by simp [Value.oneCell']) (by omega) (by omega) HB2.out.size ?_; intro v7 w7 ho7 hg7))
          go_roundw
          case rel =>
            refine ⟨k + 1, F ++ [(p, q)], by omega, by go_num, by rw [HTK.out, HAS.out, HF.out]; rfl, ?_, HB2.out.grown hg7 HB2.out.size (fun k hk => (HO2.out.lt k hk).1)⟩
            rw [ecells_snoc, List.length_append]
            exact ho7
          case measure => simp [intOf]; omega
    · have HG : Hid (F = without E x) := by
        show _ = _
        rw [HF.out, List.take_of_length_le (by rw [HN.out]; omega)]
      go_wp2
      go_ret
      exact ⟨_, rfl, by rw [← HG.out]; exact HROW.out, HB.out⟩
/-! ### same -/
set_option maxHeartbeats 2000000 in
set_option maxRecDepth 100000 in
theorem same_any {w : World} {a b : Option Addr} {c d : Nat} {E : List (Int × Int)} (hE : EdgesAt w a E) (hF : EdgesAt w b E) :
    Calls Try.prog 14 #[.slice a E.length c, .slice b E.length d] w fun e w' => e = .returned (.bool true) ∧ Below w.heap.size w w' := by
  have HG := hide hF
  have HE := hide hE
  have hlen := hE.len
  obtain ⟨n, hn⟩ : ∃ n, E.length = n := ⟨_, rfl⟩
  have HN := hide hn
  rw [hn] at hlen ⊢
  clear hn hE
  clear hF
  have hnn : (((n : Nat) : Int) != ((n : Nat) : Int)) = false := by simp
  go_enter Try.func14, Try.ntmps14
  go_wp2
  go_loopw [5] (fun i wr => ∃ k : Nat, k ≤ n ∧ i = .int .i64 k ∧ Below w.heap.size w wr) (fun i _ => n - (intOf i).toNat)
  case atStart => exact ⟨0, by omega, rfl, Below.refl _ _⟩
  case round =>
    obtain ⟨k, hk, rfl, hB⟩ := hrel
    have HB := hide hB
    clear hB
    by_cases hlt : k < n
    · obtain ⟨⟨p, q⟩, hx⟩ : ∃ x, E[k]? = some x := ⟨_, List.getElem?_eq_getElem (by rw [HN.out]; exact hlt)⟩
      obtain ⟨g1, o1, hab1, hbl1, hrg1⟩ := HE.out.at' k _ hx
      obtain ⟨g2, o2, hab2, hbl2, hrg2⟩ := HG.out.at' k _ hx
      subst hab1 hab2
      have hc0 : ∀ m, (wr.drewN m).cell? ⟨g1, o1 + k * 2, none⟩ = some (.int .i64 p) := fun m => (HB.out.cell (p := ⟨g1, o1 + k * 2, none⟩) hbl1).trans (hrg1 0 _ rfl)
      have hc1 : ∀ m, (wr.drewN m).cell? ⟨g1, o1 + k * 2 + 1, none⟩ = some (.int .i64 q) := fun m => (HB.out.cell (p := ⟨g1, o1 + k * 2 + 1, none⟩) hbl1).trans (hrg1 1 _ rfl)
      have hd0 : ∀ m, (wr.drewN m).cell? ⟨g2, o2 + k * 2, none⟩ = some (.int .i64 p) := fun m => (HB.out.cell (p := ⟨g2, o2 + k * 2, none⟩) hbl2).trans (hrg2 0 _ rfl)
      have hd1 : ∀ m, (wr.drewN m).cell? ⟨g2, o2 + k * 2 + 1, none⟩ = some (.int .i64 q) := fun m => (HB.out.cell (p := ⟨g2, o2 + k * 2 + 1, none⟩) hbl2).trans (hrg2 1 _ rfl)
      have hp : (p != p) = false := by simp
      have hq : (q != q) = false := by simp
      clear hrg1 hrg2 hx
      go_upto_region 6 with fail
      go_quiet (fail)
      go_wp2
      go_roundw
      case rel => exact ⟨k + 1, by omega, by go_num, below_drewN' HB.out _⟩
      case measure => simp [intOf]; omega
    · go_wp2
      go_ret
      exact ⟨rfl, HB.out⟩
/-! ### to -/
theorem run_index22 (w : World) (g o n cap i : Nat) (h : i < n) : (Instr.indexAt 22 (.slice (some ⟨g, o, none⟩) n cap) (.int .i64 (i : Int))).run Try.prog w = .ok (.pointer (some ⟨g, o + i * 2, none⟩)) w := by
  have hu := Try.underlying22
  have hs := Try.sizeOf24
  simp [go_sem, hu, hs, h]
theorem op_build52 (ρ : Operand → Value) (o : Oper) (x y : Operand) (ho : o.op = .build 52 #[(0, x), (1, y)]) (a b : Int) (hx : ρ x = .int .i64 a) (hy : ρ y = .int .i64 b) {w : World} : (execOp ρ o).run Try.prog w = .ok (.value (.agg #[.int .i64 a, .int .i64 b])) w := by
  unfold execOp
  simp only [ho]
  simp [hx, hy]
  kernel_rfl
theorem op_bs52 (ρ : Operand → Value) (o : Oper) (x : Operand) (ho : o.op = .buildSlice 33 1 #[(0, x)]) (p q : Int) (hx : ρ x = .agg #[.int .i64 p, .int .i64 q]) (w : World) : (execOp ρ o).run Try.prog w = .ok (.value (.slice (some ⟨w.heap.size, 0, none⟩) 1 1)) (w.alloc (.cells #[.int .i64 p, .int .i64 q] 52)) := by
  have h := run_buildS52 w p q
  unfold execOp
  simp [ho, hx, h]
theorem app52 (w : World) (base : Nat) (ty : TypeId) (v : Value) (F : List (Int × Int)) (hown : w.ownsRow base 52 2 v F.length (ecells F)) (x : Value) (p q : Int) (hx : Row w x 1 [.int .i64 p, .int .i64 q]) (hl : F.length ≤ 1000000) (hb : base ≤ w.heap.size) :
    ∃ v' w', (Builtin.append_ #[33, 33] ty #[v, x]).run Try.prog w = .ok v' w' ∧ w'.ownsRow base 52 2 v' (F ++ [(p, q)]).length (ecells (F ++ [(p, q)])) ∧ w.grownBy w' v.ownBlock := by
  obtain ⟨v', w', r1, r2, r3⟩ := run_append_row (P := Try.prog) w base 33 ty 52 (.agg #[.int .i64 0, .int .i64 0]) 2 16 Try.underlying33 Try.info52 rfl (by omega) v F.length (ecells F) hown x 1 [.int .i64 p, .int .i64 q] hx rfl (by simp [Value.oneCell']) (by omega) (by omega) hb
  refine ⟨v', w', r1, ?_, r3⟩
  rw [ecells_snoc, List.length_append]
  exact r2
set_option maxHeartbeats 2000000 in
set_option maxRecDepth 100000 in
theorem to_any {w : World} {a : Option Addr} {c : Nat} {E : List (Int × Int)} (hE : EdgesAt w a E) :
    Calls Try.prog 12 #[.slice a E.length c] w fun e w' => ∃ v, e = .returned v ∧ w'.ownsRow w.heap.size 52 2 v E.length (ecells E) ∧ Below w.heap.size w w' := by
  have HE := hide hE
  have hlen := hE.len
  obtain ⟨n, hn⟩ : ∃ n, E.length = n := ⟨_, rfl⟩
  have HN := hide hn
  rw [hn] at hlen ⊢
  clear hn hE
  go_enter Try.func12, Try.ntmps12
  go_wp2
  go_loopw [3, 4] (fun v i wr => ∃ (k : Nat) (F : List (Int × Int)), k ≤ n ∧ i = .int .i64 k ∧ F = E.take k ∧ wr.ownsRow w.heap.size 52 2 v F.length (ecells F) ∧ Below w.heap.size w wr) (fun _ i _ => n - (intOf i).toNat)
  case atStart => exact ⟨0, [], by omega, rfl, by simp, ⟨rfl, .inl ⟨rfl, rfl⟩⟩, Below.refl _ _⟩
  case round =>
    obtain ⟨k, F, hk, rfl, hF, hrow, hB⟩ := hrel
    have hFl : F.length ≤ k := by
      have h2 := List.length_take_le k E
      rw [hF]
      omega
    have HF := hide hF
    have HROW := hide hrow
    have HB := hide hB
    clear hF hrow hB
    by_cases hlt : k < n
    · obtain ⟨⟨p, q⟩, hx⟩ : ∃ x, E[k]? = some x := ⟨_, List.getElem?_eq_getElem (by rw [HN.out]; exact hlt)⟩
      obtain ⟨b, o, hab, hbl, hrg⟩ := HE.out.at' k _ hx
      subst hab
      have HRG : Hid (∀ W, Below w.heap.size w W → W.cell? ⟨b, o + k * 2, none⟩ = some (.int .i64 p) ∧ W.cell? ⟨b, o + k * 2 + 1, none⟩ = some (.int .i64 q)) := fun W hb => ⟨(hb.cell (p := ⟨b, o + k * 2, none⟩) hbl).trans (hrg 0 _ rfl), (hb.cell (p := ⟨b, o + k * 2 + 1, none⟩) hbl).trans (hrg 1 _ rfl)⟩
      have HTK : Hid (E.take (k + 1) = E.take k ++ [(p, q)]) := take_snoc hx
      have hix := run_index22
      clear hrg hx
      obtain ⟨a3, c3, rfl⟩ := owns_len HROW.out
      go_upto_region 5 with fail
      · have hX : Below w.heap.size w wr.drew := HB.out.drew
        have hRX : wr.drew.ownsRow w.heap.size 52 2 (.slice a3 F.length c3) F.length (ecells F) := owns_below HROW.out (Below.refl _ wr).drew (Nat.le_refl _)
        refine wp_region_held_drew (S := fun W => W.cell? ⟨b, o + k * 2, none⟩ = some (.int .i64 p) ∧ W.cell? ⟨b, o + k * 2 + 1, none⟩ = some (.int .i64 q)) (by kernel_rfl) (HRG.out _ hX) (fun hH => ?_)
        replace hH : wr.drew.cell? ⟨b, o + k * 2, none⟩ = some (.int .i64 p) ∧ wr.drew.cell? ⟨b, o + k * 2 + 1, none⟩ = some (.int .i64 q) := hH
        generalize wr.drew = X at *
        refine take_to 0 11 (.slice a3 F.length c3) rfl (by kernel_rfl) (by kernel_rfl) (by kernel_rfl) (fun _ _ _ h => h) rfl (by rfl) (fun W hw => by rfl) hH ?_
        simp only [Act.put, List.setIfInBounds_toArray, List.set_cons_zero, List.set_cons_succ]
        refine take_to 1 12 (.slice (some ⟨b, o, none⟩) n c) rfl (by kernel_rfl) (by kernel_rfl) (by kernel_rfl) (fun _ _ _ h => h) rfl (by rfl) (fun W hw => by rfl) hH ?_
        simp only [Act.put, List.setIfInBounds_toArray, List.set_cons_zero, List.set_cons_succ]
        refine take_to 2 13 (.int .i64 (k : Int)) rfl (by kernel_rfl) (by kernel_rfl) (by kernel_rfl) (fun _ _ _ h => h) rfl (by rfl) (fun W hw => by rfl) hH ?_
        simp only [Act.put, List.setIfInBounds_toArray, List.set_cons_zero, List.set_cons_succ]
        refine take_to 3 14 (.pointer (some ⟨b, o + k * 2, none⟩)) rfl (by kernel_rfl) (by kernel_rfl) (by kernel_rfl) (fun _ _ _ h => h) rfl (by rfl) (fun W hw => op_index _ _ 22 (.tmp 12) (.tmp 13) rfl (.slice (some ⟨b, o, none⟩) n c) (.int .i64 (k : Int)) _ rfl rfl (run_index22 W b o n c k hlt)) hH ?_
        simp only [Act.put, List.setIfInBounds_toArray, List.set_cons_zero, List.set_cons_succ]
        refine take_to 4 15 (.pointer (some ⟨b, o + k * 2, none⟩)) rfl (by kernel_rfl) (by kernel_rfl) (by kernel_rfl) (fun _ _ _ h => h) rfl (by rfl) (fun W hw => by rfl) hH ?_
        simp only [Act.put, List.setIfInBounds_toArray, List.set_cons_zero, List.set_cons_succ]
        refine take_to 5 16 (.int .i64 p) rfl (by kernel_rfl) (by kernel_rfl) (by kernel_rfl) (fun _ _ _ h => h) rfl (by rfl) (fun W hw => op_load _ _ 3 (.tmp 15) rfl (.pointer (some ⟨b, o + k * 2, none⟩)) _ rfl (run_loadAny W b (o + k * 2) 3 _ Try.isAgg3 hw.1)) hH ?_
        simp only [Act.put, List.setIfInBounds_toArray, List.set_cons_zero, List.set_cons_succ]
        refine take_to 6 17 (.slice (some ⟨b, o, none⟩) n c) rfl (by kernel_rfl) (by kernel_rfl) (by kernel_rfl) (fun _ _ _ h => h) rfl (by rfl) (fun W hw => by rfl) hH ?_
        simp only [Act.put, List.setIfInBounds_toArray, List.set_cons_zero, List.set_cons_succ]
        refine take_to 7 18 (.int .i64 (k : Int)) rfl (by kernel_rfl) (by kernel_rfl) (by kernel_rfl) (fun _ _ _ h => h) rfl (by rfl) (fun W hw => by rfl) hH ?_
        simp only [Act.put, List.setIfInBounds_toArray, List.set_cons_zero, List.set_cons_succ]
        refine take_to 8 19 (.pointer (some ⟨b, o + k * 2, none⟩)) rfl (by kernel_rfl) (by kernel_rfl) (by kernel_rfl) (fun _ _ _ h => h) rfl (by rfl) (fun W hw => op_index _ _ 22 (.tmp 17) (.tmp 18) rfl (.slice (some ⟨b, o, none⟩) n c) (.int .i64 (k : Int)) _ rfl rfl (run_index22 W b o n c k hlt)) hH ?_
        simp only [Act.put, List.setIfInBounds_toArray, List.set_cons_zero, List.set_cons_succ]
        refine take_to 9 20 (.pointer (some ⟨b, o + k * 2 + 1, none⟩)) rfl (by kernel_rfl) (by kernel_rfl) (by kernel_rfl) (fun _ _ _ h => h) rfl (by rfl) (fun W hw => by rfl) hH ?_
        simp only [Act.put, List.setIfInBounds_toArray, List.set_cons_zero, List.set_cons_succ]
        refine take_to 10 21 (.int .i64 q) rfl (by kernel_rfl) (by kernel_rfl) (by kernel_rfl) (fun _ _ _ h => h) rfl (by rfl) (fun W hw => op_load _ _ 3 (.tmp 20) rfl (.pointer (some ⟨b, o + k * 2 + 1, none⟩)) _ rfl (run_loadAny W b (o + k * 2 + 1) 3 _ Try.isAgg3 hw.2)) hH ?_
        simp only [Act.put, List.setIfInBounds_toArray, List.set_cons_zero, List.set_cons_succ]
        refine take_to 11 22 (.agg #[.int .i64 p, .int .i64 q]) rfl (by kernel_rfl) (by kernel_rfl) (by kernel_rfl) (fun _ _ _ h => h) rfl (by rfl) (fun W hw => op_build52 _ _ (.tmp 16) (.tmp 21) rfl p q rfl rfl) hH ?_
        simp only [Act.put, List.setIfInBounds_toArray, List.set_cons_zero, List.set_cons_succ]
        have hb4 : Below X.heap.size X (X.alloc (.cells #[.int .i64 p, .int .i64 q] 52)) := (Below.refl _ _).alloc (Nat.le_refl _) _
        have hc4 : Below w.heap.size w (X.alloc (.cells #[.int .i64 p, .int .i64 q] 52)) := bt hX (Nat.le_refl _) hb4
        have ho4 := owns_below hRX hb4 (Nat.le_refl _)
        have hr4 := row_new X 52 [.int .i64 p, .int .i64 q] 1 (by omega)
        refine step_to 12 23 (.slice (some ⟨X.heap.size, 0, none⟩) 1 1) (X.alloc (.cells #[.int .i64 p, .int .i64 q] 52)) rfl (by kernel_rfl) rfl (by rfl) (op_bs52 _ _ (.tmp 22) rfl p q rfl X) (HRG.out _ hc4) ?_
        simp only [Act.put, List.setIfInBounds_toArray, List.set_cons_zero, List.set_cons_succ]
        obtain ⟨v5, Y5, hrun5, ho5, hg5⟩ := app52 _ w.heap.size 33 _ F ho4 _ p q hr4 (by omega) hc4.size
        have hc5 : Below w.heap.size w Y5 := hc4.grown hg5 hc4.size (fun k hk => (ho4.lt k hk).1)
        refine step_to 13 24 v5 Y5 rfl (by kernel_rfl) rfl (by rfl) (op_append _ _ (.tmp 11) (.tmp 23) 33 rfl rfl rfl hrun5) (HRG.out _ hc5) ?_
        simp only [Act.put, List.setIfInBounds_toArray, List.set_cons_zero, List.set_cons_succ]
        refine step_to 14 3 v5 Y5 rfl (by kernel_rfl) rfl (by rfl) (by rfl) (HRG.out _ hc5) ?_
        simp only [Act.put, List.setIfInBounds_toArray, List.set_cons_zero, List.set_cons_succ]
        refine wpAnyH_done (by kernel_rfl) ?_ _
        have HR := hide ho5
        have HBB := hide hc5
        clear ho5 hc5 hg5 hrun5 hr4 ho4 hc4 hb4 hRX hX hH
        go_wp2
        go_roundw
        case rel => exact ⟨k + 1, F ++ [(p, q)], by omega, by go_num, by rw [HTK.out, HF.out], HR.out, HBB.out⟩
        case measure => simp [intOf]; omega
    · have HG : Hid (F = E) := by
        show _ = _
        rw [HF.out, List.take_of_length_le (by rw [HN.out]; omega)]
      go_wp2
      go_ret
      have h := HROW.out
      rw [HG.out, HN.out] at h
      exact ⟨_, rfl, h, HB.out⟩
end Go.Proofs.Ytaoghggbcbpapaa
