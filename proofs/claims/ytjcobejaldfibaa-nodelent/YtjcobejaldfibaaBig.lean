/- Concat and copied, up to the allocator's own bound. -/
import Derived.Test.YtjcobejaldfibaaMri
import Derived.Test.YtjcobejaldfibaaShp
namespace Go.Proofs.Ytjcobejaldfibaa
open Go.RowKit
set_option linter.unusedVariables false
set_option linter.unusedSimpArgs false

/-- An append that has room: the row stays where it is. -/
theorem run_append_roomy {P : Program} (w : World) (base : Nat) (t ty e : TypeId) (z : Value) (bytes : Nat) (ht : P.underlying t = some (.slice e)) (hinfo : (P.info? e).map (fun i => (i.zero, i.size, i.bytes)) = some (some z, 1, bytes))
    (g n cap : Nat) (xs : List Value) (hown : w.ownsRow base e 1 (.slice (some ⟨g, 0, none⟩) n cap) n xs)
    (x : Value) (m : Nat) (news : List Value) (hx : Row w x m news) (hl : news.length = m) (h1 : ∀ u ∈ news, u.oneCell' = true) (hroom : n + m ≤ cap) :
    ∃ w', (Builtin.append_ #[t, t] ty #[.slice (some ⟨g, 0, none⟩) n cap, x]).run P w = .ok (.slice (some ⟨g, 0, none⟩) (n + m) cap) w' ∧ w'.ownsRow base e 1 (.slice (some ⟨g, 0, none⟩) (n + m) cap) (n + m) (xs ++ news) ∧ w.grownBy w' (some g) := by
  obtain ⟨i, hi, hz⟩ := Option.map_eq_some_iff.1 hinfo
  simp only [Prod.mk.injEq] at hz
  obtain ⟨hz, hsize, hby⟩ := hz
  have hlen : (xs ++ news).length = (n + m) * 1 := by rw [List.length_append, hown.1, hl]; omega
  rcases hown.2 with ⟨e0, _⟩ | ⟨g', cap', cur, e0, hbg, hg, hnc, hcm, hcs, htake⟩
  · cases e0
  injection e0 with e1 e2 e3
  injection e1 with e1
  injection e1 with e1 _ _
  subst e1 e3
  obtain ⟨ao, c, rfl, c1, c2, hr⟩ := hx
  cases ao with
  | some a =>
    have hnews : ∀ j u, news[j]? = some u → w.cell? (a.add j) = some u := fun j u hu => by
      obtain ⟨g, o, e, hrg⟩ := hr (fun h0 => by rw [h0] at hu; simp at hu)
      injection e with e
      subst e
      rw [Addr.add_mid]
      exact hrg j u hu
    have hrun := run_append_room (P := P) w t ty e i ht hi g n cap cur hg a m c news (by rw [hsize, hl, Nat.mul_one]) hnews h1 hroom (by rw [hsize, hl]; omega)
    refine ⟨_, hrun, ⟨hlen, .inr ⟨g, cap, _, rfl, hbg, setRow_heap w g cur _ e _ hg, hroom, hcm, ?_, ?_⟩⟩, ⟨rfl, rfl, rfl, by simp, fun k _ hk => setRow_other w g k _ (fun e => hk (by simp [e]))⟩⟩
    · simp only [List.size_toArray, List.length_append, List.length_take, List.length_drop, Array.length_toList, hsize]
      omega
    · rw [hsize, htake, ← hlen]
      exact List.take_left
  | none =>
    have hn : news = [] := by
      refine Classical.byContradiction fun hne => ?_
      obtain ⟨g, o, e, _⟩ := hr hne
      cases e
    subst hn
    have hm : m = 0 := by simp at hl; omega
    subst hm
    have hsrc : Src P i.size t (.slice none 0 c) 0 [] w := Src.ofNil w ht c
    refine ⟨_, run_append_room_src (P := P) w t t ty e i ht hi g 0 n cap _ 0 [] hsrc (by omega) (fun j hj => by simp at hj) (fun j hj => by simp at hj), ?_, ?_⟩
    · simpa [setCells_nil] using hown
    · rw [setCells_nil]
      exact ⟨rfl, rfl, rfl, Nat.le_refl _, fun _ _ _ => rfl⟩
theorem wpList_append_roomy {P : Program} {ops : Array Oper} {rest : List Oper} {o : Oper} {a : Act} {w : World} {Q : Exit → Act → World → Prop}
    (hgd : o.guard = none) (s x : Operand) (t : TypeId) (hop : o.op = Op.call { callee := Callee.builtin Builtin.append, args := #[s, x], argTypes := #[t, t] })
    (base : Nat) (e : TypeId) (z : Value) (bytes : Nat) (ht : P.underlying t = some (.slice e)) (hi : (P.info? e).map (fun i => (i.zero, i.size, i.bytes)) = some (some z, 1, bytes))
    (g n cap : Nat) (xs : List Value) (y : Value) (m : Nat) (news : List Value) (hs : a.eval s = .slice (some ⟨g, 0, none⟩) n cap) (hy : a.eval x = y) (hown : w.ownsRow base e 1 (.slice (some ⟨g, 0, none⟩) n cap) n xs)
    (hx : Row w y m news) (hl : news.length = m) (h1 : ∀ u ∈ news, u.oneCell' = true) (hroom : n + m ≤ cap)
    (hK : ∀ w', w'.ownsRow base e 1 (.slice (some ⟨g, 0, none⟩) (n + m) cap) (n + m) (xs ++ news) → w.grownBy w' (some g) → wpList P ops Q rest (a.put o.dst (.slice (some ⟨g, 0, none⟩) (n + m) cap)) w') :
    wpList P ops Q (o :: rest) a w := by
  refine wpList_plain hgd fun K hK' => ?_
  obtain ⟨w', hrun, r1, r2⟩ := run_append_roomy (P := P) w base t o.type e z bytes ht hi g n cap xs hown y m news hx hl h1 hroom
  unfold Oper.wp
  simp [execOp, hop, resolve, invoke, builtin, hs, hy, hrun, Result.andThen]
  exact hK' _ _ (hK w' r1 r2)
set_option maxHeartbeats 400000 in
theorem growT_big (n : Nat) (h0 : n ≠ 0) (hn : 24 * n ≤ 281474976710656) (w : World) :
    Calls Try.prog 52 #[.slice none 0 0, .int .i64 (n : Int)] w fun e w' => ∃ g cap, e = .returned (.slice (some ⟨g, 0, none⟩) 0 cap) ∧ n ≤ cap ∧ Below w.heap.size w w' ∧ w'.ownsRow w.heap.size 28 1 (.slice (some ⟨g, 0, none⟩) 0 cap) 0 [] := by
  obtain ⟨i, hi, hz, hs, hb⟩ := Try.size1_28
  have hr := fun ty => Lib.run_append_nil_zeros (P := Try.prog) w 22 3 ty 28 i (.slice none 0 0) .i64 .i64 Try.underlying22 Try.underlying3 hi hz n (by omega) (by omega) (by omega) (by rw [hb]; omega)
  have HCAP := hide (grownCap_ge w n 0 28)
  have hcut0 : ∀ W, (Instr.sliceAt 22 (.slice none 0 0) none (some (.int .i64 0)) none).run Try.prog W = .ok (.slice none 0 0) W := fun W => cutT_to W none 0 0 0 (Nat.le_refl _)
  have hcut1 : ∀ W ao c, (Instr.sliceAt 22 (.slice ao n c) none (some (.int .i64 0)) none).run Try.prog W = .ok (.slice ao 0 c) W := fun W ao c => cutT_to W ao n c 0 (Nat.zero_le _)
  have hcm : grownCap w n 0 28 ≤ maxLen := grownCap_le_maxLen w n 0 28 (by simp only [maxLen]; omega)
  generalize grownCap w n 0 28 = gc at *
  have HO : Hid ((w.drew.alloc (.cells (Builtin.zeroCells (Value.cells (.slice none 0 0)) n ++ Builtin.zeroCells (Value.cells (.slice none 0 0)) (gc - n)) 28)).ownsRow w.heap.size 28 1 (.slice (some ⟨w.heap.size, 0, none⟩) 0 gc) 0 []) :=
    ⟨rfl, .inr ⟨w.heap.size, gc, _, rfl, Nat.le_refl _, heap_alloc_new w.drew _, Nat.zero_le _, hcm, by have := HCAP.out; rw [Array.size_append, size_zeroCells _ _ rfl, size_zeroCells _ _ rfl]; omega, by simp⟩⟩
  have HBL : Hid (Below w.heap.size w (w.drew.alloc (.cells (Builtin.zeroCells (Value.cells (.slice none 0 0)) n ++ Builtin.zeroCells (Value.cells (.slice none 0 0)) (gc - n)) 28))) := (below_drewN _ w 1).alloc (Nat.le_refl _) _
  clear hi hz hs hb hcm
  generalize w.drew.alloc (.cells (Builtin.zeroCells (Value.cells (.slice none 0 0)) n ++ Builtin.zeroCells (Value.cells (.slice none 0 0)) (gc - n)) 28) = W1 at *
  go_enter Try.func52, Try.ntmps52
  go_wp2_with (refine Lib.wpList_append_run _ rfl (.tmp 20) (.tmp 21) 22 3 rfl _ _ rfl rfl _ _ (hr _) ?_)
  go_ret
  exact ⟨_, _, rfl, HCAP.out, HBL.out, HO.out⟩
set_option maxHeartbeats 400000 in
theorem concatT_big {w : World} {g m : Nat} {vs : List Value} {uss : List (List Value)} (hul : uss.length = m) (hcell : ∀ j, j < m → w.cell? ⟨g, j, none⟩ = some (vs.getD j nilS))
    (hrow : ∀ j, j < m → Row w (vs.getD j nilS) (uss.getD j []).length (uss.getD j [])) (hone : ∀ j, j < m → ∀ u ∈ uss.getD j [], u.oneCell' = true) (htot : 24 * uss.flatten.length ≤ 281474976710656) (hm : m ≤ 1000) :
    Calls Try.prog 31 #[.slice (some ⟨g, 0, none⟩) m m] w fun e w' => ∃ v', e = .returned v' ∧ Below w.heap.size w w' ∧ w'.ownsRow w.heap.size 28 1 v' uss.flatten.length uss.flatten := by
  by_cases hz0 : uss.flatten.length = 0
  · exact concatT_any hul hcell hrow hone (by omega) hm
  have HS : Hid (∀ k, k < m → (uss.take (k + 1)).flatten = (uss.take k).flatten ++ uss.getD k []) := fun k hk => flat_take_succ (by omega)
  have HLE : Hid (∀ k, (uss.take k).flatten.length ≤ uss.flatten.length) := flat_take_le uss
  have HTM : Hid (uss.take m = uss) := by rw [← hul]; exact List.take_length
  have HC := hide hcell
  have HR := hide hrow
  have HO := hide hone
  have HT := hide htot
  clear hcell hrow hone hul htot
  have HZ0 := hide hz0
  clear hz0
  generalize hTot : uss.flatten.length = tot at *
  have HTot := hide hTot
  clear hTot
  go_enter Try.func31, Try.ntmps31
  go_wp2
  go_loopw [11, 3] (fun i s wr => ∃ k p : Nat, k ≤ m ∧ i = .int .i64 (k : Int) ∧ s = .int .i64 (p : Int) ∧ Hid (p = (uss.take k).flatten.length) ∧ wr = w) (fun i _ _ => m - (intOf i).toNat)
  case atStart => exact ⟨0, 0, by omega, rfl, rfl, rfl, rfl⟩
  case round =>
    obtain ⟨k, p, hk, rfl, rfl, HP, rfl⟩ := hrel
    by_cases hlt : k < m
    · have hc := HC.out k hlt
      obtain ⟨a, c, hv, q1, q2, q3⟩ := HR.out k hlt
      rw [hv] at hc
      have hsum := HS.out k hlt
      have hle := HLE.out (k + 1)
      have htt := HT.out
      rw [hsum, List.length_append] at hle
      have HE : Hid ((uss.take (k + 1)).flatten.length = p + (uss.getD k []).length) := by rw [Hid, hsum, List.length_append, HP.out]
      rw [← HP.out] at hle
      clear hv q1 q2 q3 hsum
      generalize (uss.getD k []).length = q at *
      have hp : ¬ ((p : Int) + (q : Int) < 0) := by omega
      go_wp2
      go_roundw
      case rel =>
        exact ⟨k + 1, p + q, by omega, by go_num, by go_num, HE.out.symm, trivial⟩
      case measure => simp [intOf]; omega
    · have hkm : k = m := by omega
      subst hkm
      generalize hW8 : wr = W8 at *
      have HW8 := hide hW8
      clear hW8
      have hE : p = tot := by rw [HP.out, HTM.out, HTot.out]
      clear HP
      subst hE
      have HG := hide (growT_big p HZ0.out HT.out W8)
      go_wp2_with fail
      refine HG.out.mono ?_
      rintro e W1 ⟨g1, cp, rfl, hcp, hb1, ho1⟩
      have HCP := hide hcp
      clear hcp
      have HB1 := hide hb1
      have HO1 := hide ho1
      clear hb1 ho1 HG
      go_wp2
      go_loopw [27, 6] (fun i u w2 => ∃ j q : Nat, j ≤ k ∧ i = .int .i64 (j : Int) ∧ u = .slice (some ⟨g1, 0, none⟩) q cp ∧ Hid (q = (uss.take j).flatten.length) ∧ Below W8.heap.size W8 w2 ∧ Hid (w2.ownsRow W8.heap.size 28 1 (.slice (some ⟨g1, 0, none⟩) q cp) q (uss.take j).flatten)) (fun i _ _ => k - (intOf i).toNat)
      case atStart => exact ⟨0, 0, by omega, rfl, rfl, rfl, HB1.out, HO1.out⟩
      case round =>
        obtain ⟨j, q, hj, rfl, rfl, HQ, hB, hW⟩ := hrel
        have HB := hide hB
        have HW := hW
        clear hB hW
        by_cases hlt : j < k
        · have hc := HC.out j hlt
          have hr := HR.out j hlt
          have h1 := HO.out j hlt
          have hgl := World.block_lt_of_cell? W8 _ hc
          have hc' := (HB.out.cell hgl).trans hc
          obtain ⟨a, c, hv, q1, q2, q3⟩ := hr
          have hr := HR.out j hlt
          rw [hv] at hc' hr
          have HRW := hide (hr.belowW HB.out)
          have H1 := hide h1
          have hsum := HS.out j hlt
          have hle := HLE.out (j + 1)
          have HTT := HT
          have HQN : Hid (q + (uss.getD j []).length = (uss.take (j + 1)).flatten.length) := by rw [Hid, hsum, List.length_append, HQ.out]
          have HLJ : Hid (q + (uss.getD j []).length ≤ cp) := by have := HCP.out; have h9 := HTot.out; have h8 := HQN.out; rw [Hid]; omega
          have HE := hide hsum
          clear hc hr h1 hgl hv q1 q2 q3 hsum hle
          generalize hd : (uss.getD j []).length = d at *
          have HDL := hide hd
          clear hd
          go_wp2_with (refine wpList_append_roomy rfl (.tmp 31) (.tmp 32) 22 rfl W8.heap.size 28 (.slice none 0 0) 24 Try.underlying22 Try.info28 g1 _ cp _ _ _ _ rfl rfl HW.out HRW.out HDL.out H1.out HLJ.out ?_; intro W' ho hgr)
          go_roundw
          case rel =>
            refine ⟨j + 1, q + d, by omega, by go_num, rfl, HQN.out, grown_below HB.out HW.out hgr, ?_⟩
            rw [HE.out]
            exact ho
          case measure => simp [intOf]; omega
        · have hjk : j = k := by omega
          subst hjk
          have hqp : q = p := by rw [HQ.out, HTM.out, HTot.out]
          rw [HTM.out] at HW
          clear HQ
          subst hqp
          go_wp2
          go_ret
          have hq := HW8.out
          subst hq
          exact ⟨_, rfl, HB.out, HW.out⟩

theorem makeTB (n : Nat) (hn : 24 * n ≤ 281474976710656) (w : World) : (Instr.makeSlice 22 (.int .i64 (n : Int)) (.int .i64 (n : Int))).run Try.prog w = .ok (.slice (some ⟨w.heap.size, 0, none⟩) n n) (w.alloc (.cells (Array.replicate n nilS) 28)) := by
  have := run_make_row' (P := Try.prog) 22 28 nilS 24 Try.underlying22 Try.info28 rfl .i64 .i64 n (by omega) (by omega) w
  rw [made_rep, List.toArray_replicate] at this
  exact this
set_option maxHeartbeats 2000000 in
theorem copyT_big {w : World} {v : Value} {L : List (List UInt8)} (h : TsAt w v L) (hl : 24 * L.length ≤ 281474976710656) (hk : ∀ k ∈ L, k.length ≤ 140737488355328) :
    Calls Try.prog 48 #[v] w fun e w' => ∃ v', e = .returned v' ∧ Below w.heap.size w w' ∧ TsOwn w.heap.size w' v' L := by
  obtain ⟨ao, c, rfl, hc1, hc2⟩ := h.len
  simp only [maxLen] at hc2
  have H := hide h
  have HK : Hid (∀ k, k < L.length → (L.getD k []).length ≤ 140737488355328) := fun k hkl => hk _ (by simp [hkl])
  have HT : Hid (∀ k, k < L.length → L.take (k + 1) = L.take k ++ [L.getD k []]) := fun k hk => getD_take_succ hk
  have HTL : Hid (L.take L.length = L) := List.take_length
  have hmk : ∀ W, (Instr.makeSlice 22 (.int .i64 (L.length : Int)) (.int .i64 (L.length : Int))).run Try.prog W = .ok (.slice (some ⟨W.heap.size, 0, none⟩) L.length L.length) (W.alloc (.cells (Array.replicate L.length nilS) 28)) := makeTB L.length hl
  have HB0 : Hid (Below w.heap.size w (w.alloc (.cells (Array.replicate L.length nilS) 28))) := (Below.refl _ _).alloc (Nat.le_refl _) _
  have HG0 : Hid ((w.alloc (.cells (Array.replicate L.length nilS) 28)).heap[w.heap.size]? = some (.cells (Array.replicate L.length nilS) 28 (0, 0))) := heap_alloc_new w _
  clear h hk
  generalize hL : L.length = n at *
  have HLE := hide hL
  clear hL
  go_enter Try.func48, Try.ntmps48
  go_wp2
  go_loopw [11] (fun i wr => ∃ (k : Nat) (us : List Value), k ≤ n ∧ i = .int .i64 (k : Int) ∧ us.length = k ∧ Below w.heap.size w wr ∧ w.heap.size < wr.heap.size ∧ wr.heap[w.heap.size]? = some (.cells (us ++ List.replicate (n - k) nilS).toArray 28 (0, 0)) ∧ OwnT w.heap.size wr us (L.take k)) (fun i _ => n - (intOf i).toNat)
  case atStart =>
    exact ⟨0, [], by omega, rfl, rfl, HB0.out, by simp, by simpa using HG0.out, trivial⟩
  case round =>
    obtain ⟨k, us, hkn, rfl, hul, hB, hgs, hG, hO⟩ := hrel
    have HB := hide hB
    have HG := hide hG
    have HO := hide hO
    have HUL := hide hul
    have HGS := hide hgs
    clear hB hG hO hul hgs
    by_cases hlt : k < n
    · obtain ⟨g', o', a, d, hao, hcell, hs, hd1, hd2⟩ := (H.out.below HB.out (Nat.le_refl _)).get k (by rw [HLE.out]; exact hlt)
      subst hao
      have HCL := hide (clone_any hs (HK.out k hlt))
      have HTk := hide (HT.out k hlt)
      have hgl := World.block_lt_of_cell? wr _ hcell
      clear hs
      generalize hX : L.getD k [] = X at *
      clear hX
      generalize hxl : X.length = xl at *
      clear hxl
      go_wp2_with fail
      refine HCL.out.mono ?_
      rintro e W1 ⟨u1, rfl, hb1⟩
      obtain ⟨a1, c1, e1, _, _⟩ := hb1.sl.len
      have hG1 : W1.heap[w.heap.size]? = some (.cells (us ++ List.replicate (n - k) nilS).toArray 28 (0, 0)) := (hb1.below.block w.heap.size HGS.out).trans HG.out
      have hcl1 : W1.cell? ⟨w.heap.size, k, none⟩ = some (.slice none 0 0) := by
        rw [cell_row hG1]
        have hu := HUL.out
        simp [hu, List.getElem?_append_right, List.getElem?_replicate]
        omega
      have hfz1 : W1.frozen? ⟨w.heap.size, k, none⟩ = false := frozen_row hG1
      have HB1 := hide hb1
      have HG1 := hide hG1
      clear hb1 hG1
      subst e1
      go_wp2
      go_roundw
      case rel =>
        have hu := HUL.out
        have hoff : Off [w.heap.size] W1 (W1.setCell ⟨w.heap.size, k, none⟩ (.slice a1 X.length c1)) := (Off.refl _ _).setCell _ _ (.inl (by simp))
        have hnk : n - k = n - (k + 1) + 1 := by omega
        have hw1 : wr.heap.size ≤ W1.heap.size := HB1.out.below.size
        refine ⟨k + 1, us ++ [.slice a1 X.length c1], by omega, by go_num, by simp [hu], ?_, ?_, ?_, ?_⟩
        · exact (HB.out.trans (HB1.out.below.mono (by have := HGS.out; omega))).trans (hoff.below (by have := HGS.out; omega) (by simp))
        · have := hoff.size; have := HGS.out; omega
        · have := heap_set_same (o := k) (.slice a1 X.length c1) HG1.out
          rw [this, hnk]
          conv => lhs; rw [← hu, set_next]
          rw [hu]
        · rw [HTk.out]
          have hst : ∀ (q : Nat) (C : Array Value) (fr : Nat × Nat), w.heap.size ≤ q → W1.heap[q]? = some (.cells C 5 fr) → (W1.setCell ⟨w.heap.size, k, none⟩ (.slice a1 X.length c1)).heap[q]? = W1.heap[q]? := fun q C fr _ hq => by
            refine hoff.block q (lt_of_heap hq) (fun hm => ?_)
            simp at hm
            subst hm
            rw [HG1.out] at hq
            simp at hq
          refine ((HO.out.below HB1.out.below (Nat.le_refl _)).stay hst).append ?_
          have : OwnT w.heap.size W1 [.slice a1 X.length c1] [X] := ⟨owns_mono HB1.out.own (by have := HGS.out; omega), trivial⟩
          exact this.stay hst
      case measure => simp [intOf]; omega
    · have hkL : k = n := by omega
      subst hkL
      go_wp2
      go_ret
      rw [HTL.out] at HO
      refine ⟨_, rfl, HB.out, us, HO.out, ?_⟩
      have hG := HG.out
      rw [Nat.sub_self] at hG
      simp at hG
      rw [HLE.out]
      refine ⟨by rw [HUL.out]; omega, .inr ⟨w.heap.size, k, us.toArray, rfl, Nat.le_refl _, hG, Nat.le_refl _, by simp only [maxLen]; omega, by simp [HUL.out], by rw [List.take_of_length_le (by simp [HUL.out])]⟩⟩
/-- What a node's lists may be at most, where they are made at once. -/
structure FitsB (N : Nd) : Prop where
  keys : 24 * N.keys.length ≤ 281474976710656
  vals : 24 * N.vals.length ≤ 281474976710656
  kids : 8 * N.kids.length ≤ 140737488355328
  key : ∀ k ∈ N.keys, k.length ≤ 140737488355328
  val : ∀ k ∈ N.vals, k.length ≤ 140737488355328
theorem NdSh.ofB {base : Nat} {w : World} {N : Nd} {a b c : Value} (h : NdOwn base w N a b c) (hf : FitsB N) : NdSh base w a b c :=
  ⟨TxSh.of h.keys (by have := hf.keys; omega) hf.key, TxSh.of h.vals (by have := hf.vals; omega) hf.val, InSh.of h.kids (by have := hf.kids; omega)⟩
set_option maxHeartbeats 2000000 in
theorem copied_big {w : World} {N : Nd} {vk vv vi : Value} (h : NdAt w N vk vv vi) (hf : FitsB N) :
    Calls Try.prog 26 #[.agg #[.bool N.leaf, vk, vv, vi, .int .i64 N.next]] w fun e w' => ∃ vk' vv' vi', e = .returned (.agg #[.bool N.leaf, vk', vv', vi', .int .i64 N.next]) ∧ Below w.heap.size w w' ∧ NdOwn w.heap.size w' N vk' vv' vi' := by
  obtain ⟨ak, ck, rfl, hk1, hk2⟩ := h.keys.len
  obtain ⟨av, cv, rfl, hv1, hv2⟩ := h.vals.len
  obtain ⟨ai, ci, rfl, hi1, hi2⟩ := h.kids.len
  have H := hide h
  have HF := hide hf
  have HB0 : Hid (Below w.heap.size w ((w.alloc (.cells #[.bool N.leaf, .slice ak N.keys.length ck, .slice av N.vals.length cv, .slice ai N.kids.length ci, .int .i64 N.next] 26)).alloc (.cells #[.bool false, .slice none 0 0, .slice none 0 0, .slice none 0 0, .int .i64 0] 26))) := by
    have h1 := (Below.refl w.heap.size w).alloc (Nat.le_refl _) (.cells #[.bool N.leaf, .slice ak N.keys.length ck, .slice av N.vals.length cv, .slice ai N.kids.length ci, .int .i64 N.next] 26)
    exact h1.alloc h1.size _
  have HX0 := hide ((Box.new (t := 26) w (.bool N.leaf) (.slice ak N.keys.length ck) (.slice av N.vals.length cv) (.slice ai N.kids.length ci) (.int .i64 N.next)).alloc (.cells #[.bool false, .slice none 0 0, .slice none 0 0, .slice none 0 0, .int .i64 0] 26))
  have HY0 := hide (Box.new (t := 26) (w.alloc (.cells #[.bool N.leaf, .slice ak N.keys.length ck, .slice av N.vals.length cv, .slice ai N.kids.length ci, .int .i64 N.next] 26)) (.bool false) (.slice none 0 0) (.slice none 0 0) (.slice none 0 0) (.int .i64 0))
  have HC1 : Hid (∀ W, Below w.heap.size w W → Calls Try.prog 48 #[.slice ak N.keys.length ck] W fun e w' => ∃ v', e = .returned v' ∧ Below W.heap.size W w' ∧ TsOwn W.heap.size w' v' N.keys) := fun W hW => copyT_big (H.out.keys.belowW hW) HF.out.keys HF.out.key
  have HC2 : Hid (∀ W, Below w.heap.size w W → Calls Try.prog 48 #[.slice av N.vals.length cv] W fun e w' => ∃ v', e = .returned v' ∧ Below W.heap.size W w' ∧ TsOwn W.heap.size w' v' N.vals) := fun W hW => copyT_big (H.out.vals.belowW hW) HF.out.vals HF.out.val
  have HC3 : Hid (∀ W, Below w.heap.size w W → Calls Try.prog 49 #[.slice ai N.kids.length ci] W fun e w' => ∃ v', e = .returned v' ∧ Below W.heap.size W w' ∧ W.heap.size ≤ w'.heap.size ∧ w'.ownsRow W.heap.size 3 1 v' N.kids.length (intCells N.kids)) := fun W hW => (cloneI_any (H.out.kids.belowW hW) HF.out.kids).mono (fun e w' ⟨v', h1, h2, h3⟩ => ⟨v', h1, h2, h2.size, h3⟩)
  clear h hf hk1 hk2 hv1 hv2 hi1 hi2
  generalize N.keys.length = nk at *
  generalize N.vals.length = nv at *
  generalize hni : N.kids.length = ni at *
  generalize N.leaf = lf at *
  generalize N.next = x at *
  go_enter Try.func26, Try.ntmps26
  go_upto_region 1 with fail
  have hsz : ((w.alloc (.cells #[.bool lf, .slice ak nk ck, .slice av nv cv, .slice ai ni ci, .int .i64 x] 26)).heap.size) = w.heap.size + 1 := by simp
  rw [hsz] at HY0
  clear hsz
  generalize ((w.alloc (.cells #[.bool lf, .slice ak nk ck, .slice av nv cv, .slice ai ni ci, .int .i64 x] 26)).alloc (.cells #[.bool false, .slice none 0 0, .slice none 0 0, .slice none 0 0, .int .i64 0] 26)) = W0 at *
  obtain ⟨k0, k1, k2, k3, k4, f0, f1, f2, f3, f4⟩ := HX0.out.cells
  go_wp2_with fail
  refine (HC1.out W0 HB0.out).mono ?_
  rintro e W1 ⟨u1, rfl, hb1, ho1⟩
  obtain ⟨a1, c1, e1, _, _⟩ := ho1.at.len
  subst e1
  have hbW1 := HB0.out.trans (hb1.mono HB0.out.size)
  have hlt := HX0.out.lt
  have HX1 := hide ((HX0.out.belowW hb1).set1 (.slice a1 N.keys.length c1))
  have HY1 := hide ((HY0.out.belowW hb1).apart w.heap.size 1 (.slice a1 N.keys.length c1) (by omega))
  have HB1 := hide (below_set hbW1 hbW1.size w.heap.size 1 (.slice a1 N.keys.length c1) (Nat.le_refl _))
  have HT1 := hide (ho1.set w.heap.size 1 (.slice a1 N.keys.length c1) hlt)
  have HL0 := hide HX0.out.lt
  clear k0 k1 k2 k3 k4 f0 f1 f2 f3 f4
  obtain ⟨k0, k1, k2, k3, k4, f0, f1, f2, f3, f4⟩ := (HX0.out.belowW hb1).cells
  clear hb1 ho1 hbW1
  go_upto_region 2 with fail
  clear k0 k1 k2 k3 k4 f0 f1 f2 f3 f4
  generalize hW : W1.setCell ⟨w.heap.size, 1, none⟩ (.slice a1 N.keys.length c1) = W2 at *
  clear hW
  obtain ⟨k0, k1, k2, k3, k4, f0, f1, f2, f3, f4⟩ := HX1.out.cells
  go_wp2_with fail
  refine (HC2.out W2 HB1.out).mono ?_
  rintro e W3 ⟨u3, rfl, hb3, ho3⟩
  obtain ⟨a3, c3, e3, _, _⟩ := ho3.at.len
  subst e3
  have hbW3 := HB1.out.trans (hb3.mono HB1.out.size)
  have hlt := HX1.out.lt
  have HX3 := hide ((HX1.out.belowW hb3).set2 (.slice a3 N.vals.length c3))
  have HY3 := hide ((HY1.out.belowW hb3).apart w.heap.size 2 (.slice a3 N.vals.length c3) (by omega))
  have HB3 := hide (below_set hbW3 hbW3.size w.heap.size 2 (.slice a3 N.vals.length c3) (Nat.le_refl _))
  have HT3 := hide ((HT1.out.belowW hb3).set w.heap.size 2 (.slice a3 N.vals.length c3) HL0.out)
  have HV3 := hide (ho3.set w.heap.size 2 (.slice a3 N.vals.length c3) hlt)
  have HAP : Hid (∀ k, (Value.slice a1 N.keys.length c1).ownBlock = some k → (Value.slice a3 N.vals.length c3).ownBlock ≠ some k) := fun k h1 h2 => by
    obtain ⟨_, _, q1⟩ := HT1.out.out
    obtain ⟨_, _, q3⟩ := ho3.out
    have := (q1.lt k h1).2
    have := (q3.lt k h2).1
    omega
  have HL2 := hide HX1.out.lt
  clear k0 k1 k2 k3 k4 f0 f1 f2 f3 f4
  obtain ⟨k0, k1, k2, k3, k4, f0, f1, f2, f3, f4⟩ := (HX1.out.belowW hb3).cells
  clear hb3 ho3 hbW3
  go_upto_region 3 with fail
  clear k0 k1 k2 k3 k4 f0 f1 f2 f3 f4
  generalize hW : W3.setCell ⟨w.heap.size, 2, none⟩ (.slice a3 N.vals.length c3) = W4 at *
  clear hW
  obtain ⟨k0, k1, k2, k3, k4, f0, f1, f2, f3, f4⟩ := HX3.out.cells
  go_wp2_with fail
  refine (HC3.out W4 HB3.out).mono ?_
  rintro e W5 ⟨u5, rfl, hb5, hs5, ho5⟩
  obtain ⟨a5, c5, e5⟩ := owns_len ho5
  subst e5
  have hbW5 := HB3.out.trans (hb5.mono HB3.out.size)
  have hlt := HX3.out.lt
  have HX5 := hide ((HX3.out.belowW hb5).set3 (.slice a5 ni c5))
  have HY5 := hide ((HY3.out.belowW hb5).apart w.heap.size 3 (.slice a5 ni c5) (by omega))
  have HB5 := hide (below_set hbW5 hbW5.size w.heap.size 3 (.slice a5 ni c5) (Nat.le_refl _))
  have HT5 := hide ((HT3.out.belowW hb5).set w.heap.size 3 (.slice a5 ni c5) HL0.out)
  have HV5 := hide ((HV3.out.belowW hb5).set w.heap.size 3 (.slice a5 ni c5) HL2.out)
  have HI5 := hide (owns_set ho5 w.heap.size 3 (.slice a5 ni c5) hlt)
  have HL4 := hide HX3.out.lt
  clear k0 k1 k2 k3 k4 f0 f1 f2 f3 f4
  obtain ⟨k0, k1, k2, k3, k4, f0, f1, f2, f3, f4⟩ := (HX3.out.belowW hb5).cells
  clear hb5 ho5 hbW5 hs5
  go_upto_region 4 with fail
  clear k0 k1 k2 k3 k4 f0 f1 f2 f3 f4
  generalize hW : W5.setCell ⟨w.heap.size, 3, none⟩ (.slice a5 ni c5) = W6 at *
  clear hW
  obtain ⟨k0, k1, k2, k3, k4, f0, f1, f2, f3, f4⟩ := HX5.out.cells
  obtain ⟨j0, j1, j2, j3, j4, g0, g1, g2, g3, g4⟩ := HY5.out.cells
  go_wp2
  refine bodyPost_ret (v := .agg #[.bool lf, .slice a1 N.keys.length c1, .slice a3 N.vals.length c3, .slice a5 ni c5, .int .i64 x]) (results_cell_row Try.results26 _ _ (w.heap.size + 1) 26 #[.bool lf, .slice a1 N.keys.length c1, .slice a3 N.vals.length c3, .slice a5 ni c5, .int .i64 x] (0, 0) _ rfl (HY5.out.setAll _ _ _ _ _).heap Try.underlying26 rfl Try.size26) rfl ?_
  refine ⟨_, _, _, rfl, below_setAll HB5.out (w.heap.size + 1) _ _ _ _ _ (by omega) HB5.out.size, ?_⟩
  have hHB := HB5.out.size
  have l0 : w.heap.size + 1 < W0.heap.size := HY0.out.lt
  have l2 : w.heap.size + 1 < W2.heap.size := HY1.out.lt
  have l4 : w.heap.size + 1 < W4.heap.size := HY3.out.lt
  refine ⟨((((((HT5.out.set _ _ _ l0).set _ _ _ l0).set _ _ _ l0).set _ _ _ l0).set _ _ _ l0)).mono (by omega), ((((((HV5.out.set _ _ _ l2).set _ _ _ l2).set _ _ _ l2).set _ _ _ l2).set _ _ _ l2)).mono (by omega), ?_, HAP.out⟩
  rw [hni]
  exact owns_mono (owns_set (owns_set (owns_set (owns_set (owns_set HI5.out _ _ _ l4) _ _ _ l4) _ _ _ l4) _ _ _ l4) _ _ _ l4) (by omega)
theorem concat3B {w W : World} {g : Nat} {a b c : Value} {A B C : List (List UInt8)} (ha : TsAt w a A) (hb : TsAt w b B) (hc : TsAt w c C) (hW : Below w.heap.size w W) (hg : W.heap[g]? = some (.cells #[a, b, c] 22 (0, 0))) (hl : 24 * (A.length + (B.length + C.length)) ≤ 281474976710656) :
    Calls Try.prog 31 #[.slice (some ⟨g, 0, none⟩) 3 3] W fun e w' => ∃ v n c, e = .returned (.slice v n c) ∧ Below W.heap.size W w' ∧ TsAt w' (.slice v n c) (A ++ (B ++ C)) := by
  obtain ⟨us, u1, u2⟩ := ha.belowW hW
  obtain ⟨vs, v1, v2⟩ := hb.belowW hW
  obtain ⟨ws, w1, w2⟩ := hc.belowW hW
  have e1 := u1.len
  have e2 := v1.len
  have e3 := w1.len
  refine (concatT_big (g := g) (m := 3) (vs := [a, b, c]) (uss := [us, vs, ws]) rfl (fun j hj => ?_) (fun j hj => ?_) (fun j hj => ?_) (by simp; omega) (by omega)).mono ?_
  · rw [cell_row hg]
    rcases (by omega : j = 0 ∨ j = 1 ∨ j = 2) with rfl | rfl | rfl <;> rfl
  · rcases (by omega : j = 0 ∨ j = 1 ∨ j = 2) with rfl | rfl | rfl
    · show Row W a us.length us; rw [e1]; exact u2
    · show Row W b vs.length vs; rw [e2]; exact v2
    · show Row W c ws.length ws; rw [e3]; exact w2
  · rcases (by omega : j = 0 ∨ j = 1 ∨ j = 2) with rfl | rfl | rfl
    · exact u1.one
    · exact v1.one
    · exact w1.one
  · rintro e w' ⟨v', rfl, hb', ho⟩
    obtain ⟨x, y, rfl⟩ := owns_len ho
    have ef : [us, vs, ws].flatten = us ++ (vs ++ ws) := by simp
    refine ⟨_, _, _, rfl, hb', us ++ (vs ++ ws), (u1.append (v1.append w1)).below hb' (Nat.le_refl _), ?_⟩
    rw [ef] at ho ⊢
    have := Row.of_owns ho
    simpa [e1, e2, e3] using this
theorem concat2B {w W : World} {g : Nat} {a b : Value} {A B : List (List UInt8)} (ha : TsAt w a A) (hb : TsAt w b B) (hW : Below w.heap.size w W) (hg : W.heap[g]? = some (.cells #[a, b] 22 (0, 0))) (hl : 24 * (A.length + B.length) ≤ 281474976710656) :
    Calls Try.prog 31 #[.slice (some ⟨g, 0, none⟩) 2 2] W fun e w' => ∃ v n c, e = .returned (.slice v n c) ∧ Below W.heap.size W w' ∧ TsAt w' (.slice v n c) (A ++ B) := by
  obtain ⟨us, u1, u2⟩ := ha.belowW hW
  obtain ⟨vs, v1, v2⟩ := hb.belowW hW
  have e1 := u1.len
  have e2 := v1.len
  refine (concatT_big (g := g) (m := 2) (vs := [a, b]) (uss := [us, vs]) rfl (fun j hj => ?_) (fun j hj => ?_) (fun j hj => ?_) (by simp; omega) (by omega)).mono ?_
  · rw [cell_row hg]
    rcases (by omega : j = 0 ∨ j = 1) with rfl | rfl <;> rfl
  · rcases (by omega : j = 0 ∨ j = 1) with rfl | rfl
    · show Row W a us.length us; rw [e1]; exact u2
    · show Row W b vs.length vs; rw [e2]; exact v2
  · rcases (by omega : j = 0 ∨ j = 1) with rfl | rfl
    · exact u1.one
    · exact v1.one
  · rintro e w' ⟨v', rfl, hb', ho⟩
    obtain ⟨x, y, rfl⟩ := owns_len ho
    have ef : [us, vs].flatten = us ++ vs := by simp
    refine ⟨_, _, _, rfl, hb', us ++ vs, (u1.append v1).below hb' (Nat.le_refl _), ?_⟩
    rw [ef] at ho ⊢
    have := Row.of_owns ho
    simpa [e1, e2] using this
end Go.Proofs.Ytjcobejaldfibaa
