/- Del and Slots. -/
import Derived.Test.YtdddeneppciiiaaPut
namespace Go.Proofs.Ytdddeneppciiiaa
open Go.RowKit
set_option linter.unusedVariables false
set_option linter.unusedSimpArgs false

def delOf (bs : List UInt8) (i : Int) : Int × Option (List UInt8) := match dec bs with
  | none => (63, none)
  | some g => if hasB g.sl i = true then (0, some (g.del i.toNat).enc) else (61, none)
def DelEnd (w : World) (r : Int × Option (List UInt8)) (e : Ending) (w' : World) : Prop :=
  Below w.heap.size w w' ∧ match r.2 with
  | none => e = .returned (.tuple #[.slice none 0 0, .int .i64 r.1])
  | some X => ∃ v, e = .returned (.tuple #[v, .int .i64 0]) ∧ Sl w' v X
theorem run_cut54 (w : World) (ao : Option Addr) (n c h : Nat) (hh : h ≤ c) :
    (Instr.sliceAt 54 (.slice ao n c) none (some (.int .i64 (h : Int))) none).run Try.prog w = .ok (.slice ao h c) w := by
  have hu := Try.underlying54
  have h1 : (h : Int) ≤ (c : Int) := by omega
  obtain ⟨i, hi, hz⟩ := Option.map_eq_some_iff.1 Try.info61
  simp only [Prod.mk.injEq] at hz
  obtain ⟨hz, hsz, hby⟩ := hz
  simp [Instr.sliceAt, Instr.slice, run_underlying hu, Instr.sliceBounds, Instr.sliceBound, asIntOf, h1, sizeOf, typeInfo, hi, hsz, hh]
  by_cases e : c = 0
  · simp [e]
  · simp [e]
    cases ao with
    | none => rfl
    | some a => obtain ⟨g, o, s⟩ := a; cases s <;> simp [Addr.add]
set_option maxHeartbeats 1000000 in
theorem del_none {w : World} {v : Value} {bs : List UInt8} (h : Sl w v bs) (hd : dec bs = none) (i : Int) : Calls Try.prog 16 #[v, .int .i64 i] w fun e w' => DelEnd w (63, none) e w' := by
  have HR := hide (read_none h hd)
  clear h
  go_enter Try.func16, Try.ntmps16
  go_wp2_with (go_at_call 27; refine HR.out.mono ?_; rintro e W1 ⟨rfl, hb⟩)
  go_ret2
  exact ⟨hb.alloc hb.size _, rfl⟩
set_option maxHeartbeats 1000000 in
theorem del_not {w : World} {v : Value} {bs : List UInt8} {g : Pg} (h : Sl w v bs) (hd : dec bs = some g) (i : Int) (hh : hasB g.sl i = false) : Calls Try.prog 16 #[v, .int .i64 i] w fun e w' => DelEnd w (61, none) e w' := by
  have HR := hide (read_some h hd)
  have HHAS : Hid (∀ W b ao c, Box w W b (g.next : Int) (.slice ao g.sl.length c) g.sl → Calls Try.prog 31 #[.agg #[.int .i64 (g.next : Int), .slice ao g.sl.length c], .int .i64 i] W fun e w' => e = .returned (.bool false) ∧ Below W.heap.size W w') := fun W b ao c hb => by have := has_any hb.own.at g.next i; rw [hh] at this; exact this
  clear h
  go_enter Try.func16, Try.ntmps16
  go_wp2_with (first | (go_at_call 27; refine HR.out.mono ?_; rintro e W1 ⟨ao, c, rfl, ho⟩; have HX := hide (Box.new (nx := (g.next : Int)) ho)) | (go_at_call 31; refine (HHAS.out _ _ _ _ HX.out).mono ?_; rintro e W2 ⟨rfl, hb2⟩))
  go_ret2
  exact ⟨HX.out.bw.trans (hb2.mono HX.out.bw.size), rfl⟩
theorem has_nat {S : List Slt} {i : Int} (h : hasB S i = true) : ∃ k : Nat, i = (k : Int) ∧ k < S.length := by
  unfold hasB at h
  simp only [Bool.and_eq_true, decide_eq_true_eq] at h
  refine ⟨i.toNat, by omega, Classical.byContradiction fun hn => ?_⟩
  have := h.2
  rw [List.getD_eq_getElem?_getD, List.getElem?_eq_none (by omega)] at this
  cases this
set_option maxHeartbeats 2000000 in
set_option maxRecDepth 100000 in
theorem del_some {w : World} {v : Value} {bs : List UInt8} {g : Pg} (h : Sl w v bs) (hd : dec bs = some g) (k : Nat) (hk : k < g.sl.length) (hh : hasB g.sl k = true) : Calls Try.prog 16 #[v, .int .i64 (k : Int)] w fun e w' => DelEnd w (0, some (g.del k).enc) e w' := by
  have HR := hide (read_some h hd)
  have hgood := (enc_dec hd).1
  have HHAS : Hid (∀ W b ao c, Box w W b (g.next : Int) (.slice ao g.sl.length c) g.sl → Calls Try.prog 31 #[.agg #[.int .i64 (g.next : Int), .slice ao g.sl.length c], .int .i64 (k : Int)] W fun e w' => e = .returned (.bool true) ∧ Below W.heap.size W w') := fun W b ao c hb => by have := has_any hb.own.at g.next k; rw [hh] at this; exact this
  have HND : Hid (∀ W b ao c, Box w W b (g.next : Int) (.slice ao g.sl.length c) (g.sl.set k none) → Calls Try.prog 32 #[.agg #[.int .i64 (g.next : Int), .slice ao g.sl.length c]] W fun e w' => e = .returned (.int .i64 (need (g.sl.set k none) g.sl.length : Nat)) ∧ Below W.heap.size W w') := fun W b ao c hb => by have := needed_any hb.own.at g.next; rw [List.length_set] at this; exact this
  have HBY : Hid (∀ W b ao c n, Box w W b (g.next : Int) (.slice ao n c) (g.del k).sl → Calls Try.prog 26 #[.agg #[.int .i64 (g.next : Int), .slice ao n c]] W fun e w' => ∃ q, e = .returned (.slice (some ⟨q, 0, none⟩) 504 504) ∧ Sl w' (.slice (some ⟨q, 0, none⟩) 504 504) (g.del k).enc ∧ Below W.heap.size W w') := fun W b ao c n hb => bytes_sl (g := g.del k) hb.own.at hgood.next (del_good hgood k).size
  have HDS : Hid ((g.del k).sl = (g.sl.set k none).take (need (g.sl.set k none) g.sl.length)) := by unfold Pg.del trim; rw [Hid, List.length_set]
  have hnl : need (g.sl.set k none) g.sl.length ≤ g.sl.length := need_le _ _
  clear h hd hh hgood
  go_enter Try.func16, Try.ntmps16
  go_wp2_with fail
  refine HR.out.mono ?_
  rintro e W1 ⟨ao, c, rfl, ho⟩
  have HX := hide (Box.new (nx := (g.next : Int)) ho)
  clear ho HR
  go_wp2_with fail
  refine (HHAS.out _ _ _ _ HX.out).mono ?_
  rintro e W2 ⟨rfl, hb2⟩
  have HX2 := hide (HX.out.below hb2)
  clear hb2 HX HHAS
  generalize W1.heap.size = b at *
  have x0 := HX2.out.c0
  have x1 := HX2.out.c1
  obtain ⟨G, cap, W5, hv, hst, hX5⟩ := HX2.out.set k hk false (.slice none 0 0) none ⟨rfl, Sl.nil w⟩
  injection hv with hv1 hv2 hv3
  subst hv1 hv3
  clear hv2
  have y0 := hX5.c0
  have y1 := hX5.c1
  have z1 := hX5.fz 1
  have HX5 := hide hX5
  have hcc : g.sl.length ≤ c := by
    obtain ⟨ao, c', e, h1, _⟩ := hX5.own.at
    injection e with e1 e2 e3
    rw [List.length_set] at h1
    omega
  have HN5 := hide (fun m => HND.out _ _ _ _ (hX5.below (below_drewN _ _ m)))
  clear hX5 HX2
  generalize hN : need (g.sl.set k none) g.sl.length = N at *
  have hcut := fun W => run_cut54 W (some ⟨G, 0, none⟩) g.sl.length c N (by omega)
  go_upto_region 7 with (refine wpList_store_in rfl 61 (.tmp 23) (.tmp 22) rfl rfl G (k * 2) [.bool false, .slice none 0 0] W5 rfl rfl hst ?_)
  clear hst x0 x1
  go_region_with (go_at_call 32; refine (HN5.out 1).mono ?_; rintro e W6 ⟨rfl, hb6⟩; have hb6' : Below W5.heap.size W5 W6 := ⟨hb6.os, hb6.tape, hb6.output, hb6.size, hb6.block⟩; have HX6 := hide (HX5.out.below hb6'); have u0 := HX6.out.c0; have u1 := HX6.out.c1; have t1 := HX6.out.fz 1)
  all_goals have HX7 := hide (Box.put HX6.out.base HX6.out.box (by have := HX6.out.own.cut N (by rw [List.length_set]; exact hnl); rw [← HDS.out] at this; exact this))
  all_goals clear u0 u1 t1 hb6' hcut y0 y1 z1 HX5 HN5
  all_goals generalize W6.setCell ⟨b, 1, none⟩ (.slice (some ⟨G, 0, none⟩) N c) = W7 at *
  all_goals have u0 := HX7.out.c0
  all_goals have u1 := HX7.out.c1
  all_goals go_wp2_with (go_at_call 26; refine (HBY.out _ _ _ _ _ HX7.out).mono ?_; rintro e W8 ⟨q, rfl, hs8, hb8⟩)
  all_goals go_ret2
  all_goals exact ⟨HX7.out.bw.trans (hb8.mono HX7.out.bw.size), _, rfl, hs8⟩
theorem del_any {w : World} {v : Value} {bs : List UInt8} (h : Sl w v bs) (i : Int) : Calls Try.prog 16 #[v, .int .i64 i] w fun e w' => DelEnd w (delOf bs i) e w' := by
  cases hd : dec bs with
  | none =>
    have : delOf bs i = (63, none) := by unfold delOf; rw [hd]
    rw [this]
    exact del_none h hd i
  | some g =>
    cases hh : hasB g.sl i with
    | false =>
      have : delOf bs i = (61, none) := by unfold delOf; rw [hd]; simp [hh]
      rw [this]
      exact del_not h hd i hh
    | true =>
      have : delOf bs i = (0, some (g.del i.toNat).enc) := by unfold delOf; rw [hd]; simp [hh]
      rw [this]
      obtain ⟨k, rfl, hk⟩ := has_nat hh
      rw [Int.toNat_natCast]
      exact del_some h hd k hk hh
/-! ### Slots -/
def pgOr (bs : List UInt8) : Pg := (dec bs).getD Pg.zero
theorem read_or {w : World} {v : Value} {bs : List UInt8} (h : Sl w v bs) :
    Calls Try.prog 27 #[v] w fun e w' => ∃ ao c ok, e = .returned (.tuple #[.agg #[.int .i64 ((pgOr bs).next : Int), .slice ao (pgOr bs).sl.length c], .bool ok]) ∧ SlotsOwn w w' (.slice ao (pgOr bs).sl.length c) (pgOr bs).sl := by
  cases hd : dec bs with
  | none =>
    have e : pgOr bs = Pg.zero := by unfold pgOr; rw [hd]; rfl
    rw [e]
    refine (read_none h hd).mono ?_
    rintro e w' ⟨rfl, hb⟩
    exact ⟨none, 0, false, rfl, slotsOwn_nil hb⟩
  | some g =>
    have e : pgOr bs = g := by unfold pgOr; rw [hd]; rfl
    rw [e]
    refine (read_some h hd).mono ?_
    rintro e w' ⟨ao, c, rfl, ho⟩
    exact ⟨ao, c, true, rfl, ho⟩
def natCells (l : List Nat) : List Value := l.map fun (k : Nat) => Value.int .i64 (k : Int)
theorem slotsOf_append : ∀ (A B : List Slt) (i : Nat), slotsOf (A ++ B) i = slotsOf A i ++ slotsOf B (i + A.length)
  | [], B, i => by simp [slotsOf]
  | none :: A, B, i => by rw [List.cons_append, slotsOf, slotsOf, slotsOf_append A B, List.length_cons, show i + 1 + A.length = i + (A.length + 1) by omega]
  | some d :: A, B, i => by rw [List.cons_append, slotsOf, slotsOf, slotsOf_append A B, List.length_cons, show i + 1 + A.length = i + (A.length + 1) by omega]; rfl
theorem slotsOf_len : ∀ (A : List Slt) (i : Nat), (slotsOf A i).length ≤ A.length
  | [], i => by simp [slotsOf]
  | none :: A, i => by have := slotsOf_len A (i + 1); simp only [slotsOf, List.length_cons]; omega
  | some d :: A, i => by have := slotsOf_len A (i + 1); simp only [slotsOf, List.length_cons]; omega
theorem slotsOf_take {S : List Slt} {k : Nat} (h : k < S.length) : slotsOf (S.take (k + 1)) 0 = slotsOf (S.take k) 0 ++ if (S.getD k none).isSome = true then [k] else [] := by
  rw [List.take_succ_eq_append_getElem h, slotsOf_append, Nat.zero_add, List.length_take, Nat.min_eq_left (by omega)]
  have : S.getD k none = S[k] := by simp [h]
  rw [this]
  cases S[k] <;> simp [slotsOf]
theorem Try.info3' : (Try.prog.info? 3).map (fun i => (i.zero, i.size, i.bytes)) = some (some (.int .i64 0), 1, 8) := Try.info3
theorem buildInt (x : Int) (w : World) : (Instr.buildSlice 31 1 #[(0, .int .i64 x)]).run Try.prog w = .ok (.slice (some ⟨w.heap.size, 0, none⟩) 1 1) (w.alloc (.cells #[.int .i64 x] 3)) := by
  kernel_rfl
theorem SlotsOwn.grown {w0 w w' : World} {v u : Value} {S : List Slt} {n : Nat} {xs : List Value} (h : SlotsOwn w0 w v S) (hu : w.ownsRow w0.heap.size 3 1 u n xs) (hg : w.grownBy w' u.ownBlock) : SlotsOwn w0 w' v S := by
  obtain ⟨hb0, R, h1, h2⟩ := h
  have hOff : Off (match u.ownBlock with | some k => [k] | none => []) w w' := (Off.refl _ _).grown hg (fun k hk => .inl (by rw [hk]; simp))
  have hin : ∀ k ∈ (match u.ownBlock with | some k => [k] | none => []), w0.heap.size ≤ k ∧ v.ownBlock ≠ some k := by
    intro k hk
    cases hv : u.ownBlock with
    | none => rw [hv] at hk; simp at hk
    | some j =>
      rw [hv] at hk
      simp at hk
      subst hk
      refine ⟨(hu.lt k hv).1, ?_⟩
      rcases hu.2 with ⟨rfl, _⟩ | ⟨g, cap, cur, rfl, _, hgg, _⟩
      · simp [Value.ownBlock] at hv
      · have : g = k := by simpa [Value.ownBlock] using hv
        subst this
        exact owns_ne h1 hgg (by decide)
  exact ⟨hb0.trans (hOff.below hb0.size (fun k hk => (hin k hk).1)), R, owns_off h1 hOff (fun k hk => (hin k hk).2), h2⟩
set_option maxHeartbeats 2000000 in
set_option maxRecDepth 100000 in
theorem slots_any {w : World} {v : Value} {bs : List UInt8} (h : Sl w v bs) : Calls Try.prog 14 #[v] w fun e w' => ∃ u, e = .returned u ∧ w'.ownsRow w.heap.size 3 1 u (pgOr bs).slots.length (natCells (pgOr bs).slots) ∧ Below w.heap.size w w' := by
  have HR := hide (read_or h)
  have HSL : Hid ((pgOr bs).sl.length ≤ 1000) := by
    unfold pgOr
    cases hd : dec bs with
    | none => show 0 ≤ 1000; omega
    | some g =>
      have := (enc_dec hd).1.size
      simp only [Pg.size, tsize] at this
      show g.sl.length ≤ 1000
      omega
  clear h
  unfold Pg.slots
  generalize (pgOr bs).next = nx at *
  generalize (pgOr bs).sl = S at *
  have HTK := fun k (hk : k < S.length) => hide (slotsOf_take hk)
  have HLN := fun k => hide (slotsOf_len (S.take k) 0)
  have hsl := HSL.out
  have HTE : Hid (S.take S.length = S) := List.take_length
  go_enter Try.func14, Try.ntmps14
  go_wp2_with (go_at_call 27; refine HR.out.mono ?_; rintro e W1 ⟨ao, c, ok, rfl, ho⟩)
  have HO := hide (ho.below ((Below.refl _ _).alloc (Nat.le_refl _) (.cells #[.int .i64 (nx : Int), .slice ao S.length c] 56)))
  clear ho HR
  generalize hL : S.length = L at *
  go_loopw [16, 5] (fun i u wr => ∃ k : Nat, k ≤ L ∧ i = .int .i64 (k : Int) ∧ wr.ownsRow w.heap.size 3 1 u (slotsOf (S.take k) 0).length (natCells (slotsOf (S.take k) 0)) ∧ SlotsOwn w wr (.slice ao L c) S) (fun i _ _ => L - (intOf i).toNat)
  case atStart => exact ⟨0, Nat.zero_le _, rfl, World.ownsRow_nil _ _ _ _, HO.out⟩
  case round =>
    obtain ⟨k, hk, rfl, hu, ho⟩ := hrel
    have HU := hide hu
    have HOW := hide ho
    clear hu ho HO
    by_cases hlt : k < L
    · obtain ⟨ao', c', e', _, _, h3⟩ := HOW.out.at
      injection e' with e1 e2 e3
      subst e1 e3
      obtain ⟨g, o, m, ad, ac, rfl, k1, k2, k3, k4⟩ := h3 k (by omega)
      have HT := HTK k (by omega)
      have hgl := World.block_lt_of_cell? wr _ k1
      clear h3 k3 k4 e2
      have HOA := hide (HOW.out.below ((Below.refl _ _).alloc (Nat.le_refl _) (.cells #[.bool (S.getD k none).isSome, .slice ad m ac] 61)))
      have HUA := hide (owns_below HU.out ((Below.refl _ _).alloc (Nat.le_refl _) (.cells #[.bool (S.getD k none).isSome, .slice ad m ac] 61)) (Nat.le_refl _))
      cases hb : (S.getD k none).isSome with
      | false =>
        rw [hb] at k1 HOA HUA
        have HE : Hid (slotsOf (S.take (k + 1)) 0 = slotsOf (S.take k) 0) := by rw [Hid, HT.out, hb]; simp
        clear HT hb hL
        go_wp2
        go_roundw
        case rel => exact ⟨k + 1, by omega, by go_num, by rw [HE.out]; exact HUA.out, HOA.out⟩
        case measure => simp [intOf]; omega
      | true =>
        rw [hb] at k1 HOA HUA
        have HE : Hid (slotsOf (S.take (k + 1)) 0 = slotsOf (S.take k) 0 ++ [k]) := by rw [Hid, HT.out, hb]; simp
        have hll : (slotsOf (S.take k) 0).length ≤ 1000 := by have := (HLN k).out; rw [List.length_take] at this; omega
        clear HT hb hL
        go_upto_region 7 with fail
        clear k1 k2 hgl
        generalize wr.alloc (.cells #[.bool true, .slice ad m ac] 61) = W2 at *
        have hbi := buildInt k W2
        have HOB := hide (HOA.out.below ((Below.refl _ _).alloc (Nat.le_refl _) (.cells #[.int .i64 (k : Int)] 3)))
        have HUB := hide (owns_below HUA.out ((Below.refl _ _).alloc (Nat.le_refl _) (.cells #[.int .i64 (k : Int)] 3)) (Nat.le_refl _))
        have HROW : Hid (Row (W2.alloc (.cells #[.int .i64 (k : Int)] 3)) (.slice (some ⟨W2.heap.size, 0, none⟩) 1 1) 1 [.int .i64 (k : Int)]) := ⟨_, 1, rfl, Nat.le_refl _, by simp only [maxLen]; omega, fun _ => ⟨W2.heap.size, 0, rfl, fun j u hu => by rw [Nat.zero_add, cell_row (heap_alloc_new W2 _)]; simpa using hu⟩⟩
        generalize slotsOf (S.take k) 0 = l at *
        go_wp2_with (refine wpList_append_row rfl (.tmp 23) (.tmp 25) 31 rfl w.heap.size 3 (.int .i64 0) 1 8 Try.underlying31 Try.info3 rfl (by omega) _ _ _ _ 1 _ rfl rfl HUB.out HROW.out rfl (by simp [Value.oneCell']) (by omega) (by omega) HOB.out.1.size ?_; intro v3 W3 ho3 hg3)
        go_roundw
        case rel =>
          refine ⟨k + 1, by omega, by go_num, ?_, HOB.out.grown HUB.out hg3⟩
          rw [HE.out, List.length_append, List.length_singleton]
          unfold natCells at *
          rw [List.map_append]
          exact ho3
        case measure => simp [intOf]; omega
    · have hkL : k = L := by omega
      subst hkL
      rw [HTE.out] at HU
      go_wp2
      go_ret
      exact ⟨_, rfl, HU.out, HOW.out.1⟩
end Go.Proofs.Ytdddeneppciiiaa
