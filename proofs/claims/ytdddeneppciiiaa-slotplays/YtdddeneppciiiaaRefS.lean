/- The document's answer: Set, Del, Slots. -/
import Derived.Test.YtdddeneppciiiaaRefQ
import Derived.Test.YtdddeneppciiiaaNext
namespace Go.Proofs.Ytdddeneppciiiaa
open Go.RowKit
set_option linter.unusedVariables false
set_option linter.unusedSimpArgs false

def setOf (bs : List UInt8) (i : Int) (d : List UInt8) : Int × Option (List UInt8) := match dec bs with
  | none => (63, none)
  | some g => if 480 < d.length then (1, none) else if hasB g.sl i = true then (if 504 < tsize (g.sl.set i.toNat (some d)) then (60, none) else (0, some (g.set i.toNat d).enc)) else (61, none)
def REnd (w : World) (r : Int × Option (List UInt8)) (e : Ending) (w' : World) : Prop :=
  Below w.heap.size w w' ∧ match r.2 with
  | none => e = .returned (.tuple #[.slice none 0 0, .int .i64 r.1])
  | some X => ∃ a c, e = .returned (.tuple #[.slice a 504 c, .int .i64 0]) ∧ Sl w' (.slice a 504 c) X
set_option maxHeartbeats 1000000 in
set_option maxRecDepth 100000 in
theorem rset_any {w : World} {v dv : Value} {bs d : List UInt8} (h : Sl w v bs) (hdv : Sl w dv d) (i : Int) : Calls Try.prog 21 #[v, .int .i64 i, dv] w fun e w' => REnd w (setOf bs i d) e w' := by
  have HD := hide hdv
  obtain ⟨da, dc, rfl, hdc, hdm⟩ := hdv.len
  simp only [maxLen] at hdm
  cases hd : dec bs with
  | none =>
    have HE : Hid (setOf bs i d = (63, none)) := by unfold setOf; rw [Hid, hd]
    rw [HE.out]
    have HR := hide (rread_none h hd)
    clear h hdv
    generalize d.length = D at *
    go_enter Try.func21, Try.ntmps21
    go_wp2_with (go_at_call 34; refine HR.out.mono ?_; rintro e W1 ⟨rfl, hb1⟩)
    go_ret2
    exact ⟨hb1.alloc hb1.size _, rfl⟩
  | some g =>
    have hgood := (enc_dec hd).1
    have HR := hide (rread_some h hd)
    have hgs : g.size = 6 + 4 * g.sl.length + blen g.sl := rfl
    have hlen2 : g.sl.length ≤ 200 := by have := hgood.size; omega
    by_cases h480 : 480 < d.length
    · have HE : Hid (setOf bs i d = (1, none)) := by unfold setOf; rw [Hid, hd]; simp only [if_pos h480]
      rw [HE.out]
      have h480I : (480 : Int) < (d.length : Int) := by omega
      clear h hdv hd hgs hgood
      generalize d.length = D at *
      go_enter Try.func21, Try.ntmps21
      go_wp2_with (go_at_call 34; refine HR.out.mono ?_; rintro e W1 ⟨ao, c, rfl, ho⟩; have HX := hide (RBox.new (nx := (g.next : Int)) ho))
      go_ret2
      exact ⟨HX.out.bw, rfl⟩
    · have h480I : ¬ ((480 : Int) < (d.length : Int)) := by omega
      have HHAS : Hid (∀ W b ao c, RBox w W b (g.next : Int) (.slice ao g.sl.length c) g.sl → Calls Try.prog 36 #[.agg #[.int .i64 (g.next : Int), .slice ao g.sl.length c], .int .i64 i] W fun e w' => e = .returned (.bool (hasB g.sl i)) ∧ Below W.heap.size W w') := fun W b ao c hb => rhas_any hb.own.at rfl g.next i
      cases hh : hasB g.sl i with
      | false =>
        have HE : Hid (setOf bs i d = (61, none)) := by unfold setOf; rw [Hid, hd]; simp [h480, hh]
        rw [HE.out]
        rw [hh] at HHAS
        clear h hdv hd hgs hgood
        generalize d.length = D at *
        go_enter Try.func21, Try.ntmps21
        go_wp2_with (first | (go_at_call 34; refine HR.out.mono ?_; rintro e W1 ⟨ao, c, rfl, ho⟩; have HX := hide (RBox.new (nx := (g.next : Int)) ho)) | (go_at_call 36; refine (HHAS.out _ _ _ _ HX.out).mono ?_; rintro e W2 ⟨rfl, hb2⟩))
        go_ret2
        exact ⟨HX.out.bw.trans (hb2.mono HX.out.bw.size), rfl⟩
      | true =>
        rw [hh] at HHAS
        obtain ⟨k, rfl, hk⟩ := has_nat hh
        have HE : Hid (setOf bs k d = if 504 < tsize (g.sl.set k (some d)) then (60, none) else (0, some (g.set k d).enc)) := by unfold setOf; rw [Hid, hd]; simp only [if_neg h480, if_pos hh, Int.toNat_natCast]
        have hws : withS g.sl k d = g.sl.set k (some d) := by unfold withS; rw [if_neg (by omega)]
        have htl : tsize (withS g.sl k d) ≤ 100000 := by
          have := hgood.size
          have := blen_set g.sl k (some d) hk
          rw [hws]
          simp only [tsize, List.length_set, slen, Option.getD_some] at this ⊢; omega
        have HWT : Hid (∀ W b ao c, RBox w W b (g.next : Int) (.slice ao g.sl.length c) g.sl → Calls Try.prog 35 #[.agg #[.int .i64 (g.next : Int), .slice ao g.sl.length c], .int .i64 (k : Int), .slice da d.length dc] W fun e w' => WithEnd W (g.next : Int) g.sl (g.sl.set k (some d)) ao c e w') := fun W b ao c hb => by
          have := with_any hb.own.at (HD.out.belowW hb.bw) g.next k (by omega) hlen2 htl
          rw [hws] at this
          exact this
        have HGN := hide hgood.next
        rw [HE.out]
        clear h hdv hd hgs hgood hh hws htl
        have HSETL : Hid ((g.sl.set k (some d)).length = g.sl.length) := List.length_set
        by_cases hT : 504 < tsize (g.sl.set k (some d))
        · rw [if_pos hT]
          have HT := hide hT
          generalize d.length = D at *
          go_enter Try.func21, Try.ntmps21
          go_wp2_with fail
          refine HR.out.mono ?_
          rintro e W1 ⟨ao, c, rfl, ho⟩
          have HX := hide (RBox.new (nx := (g.next : Int)) ho)
          clear HR ho
          go_wp2_with fail
          refine (HHAS.out _ _ _ _ HX.out).mono ?_
          rintro e W2 ⟨rfl, hb2⟩
          have HX2 := hide (HX.out.below hb2)
          have x0 := HX2.out.c0
          have x1 := HX2.out.c1
          clear hb2 HX HHAS hT
          generalize W1.heap.size = b at *
          go_wp2_with fail
          refine (HWT.out _ _ _ _ HX2.out).mono ?_
          rintro e W3 ⟨hb3, hres⟩
          rw [if_pos HT.out] at hres
          subst hres
          have HB3 := hide (HX2.out.bw.trans (hb3.mono HX2.out.bw.size))
          clear hb3 HWT
          go_wp2
          go_ret2
          exact ⟨HB3.out.alloc HB3.out.size _, rfl⟩
        · rw [if_neg hT]
          have HT := hide hT
          have hTle : tsize (g.sl.set k (some d)) ≤ 504 := by omega
          generalize d.length = D at *
          go_enter Try.func21, Try.ntmps21
          go_wp2_with fail
          refine HR.out.mono ?_
          rintro e W1 ⟨ao, c, rfl, ho⟩
          have HX := hide (RBox.new (nx := (g.next : Int)) ho)
          clear HR ho
          go_wp2_with fail
          refine (HHAS.out _ _ _ _ HX.out).mono ?_
          rintro e W2 ⟨rfl, hb2⟩
          have HX2 := hide (HX.out.below hb2)
          have x0 := HX2.out.c0
          have x1 := HX2.out.c1
          clear hb2 HX HHAS hT
          generalize W1.heap.size = b at *
          go_wp2_with fail
          refine (HWT.out _ _ _ _ HX2.out).mono ?_
          rintro e W3 ⟨hb3, hres⟩
          rw [if_neg HT.out] at hres
          obtain ⟨a4, c4, rfl, ho4⟩ := hres
          have HX4 := hide (RBox.new (nx := (g.next : Int)) ho4)
          have HB4 := hide ((HX2.out.bw.trans (hb3.mono HX2.out.bw.size)).alloc (Nat.le_trans HX2.out.bw.size hb3.size) (.cells #[.int .i64 (g.next : Int), .slice a4 (g.sl.set k (some d)).length c4] 67))
          have HBY0 := rbytes_sl (g := g.set k d) HX4.out HGN.out hTle
          have HBY : Hid (Calls Try.prog 33 #[.agg #[.int .i64 (g.next : Int), .slice a4 (g.sl.set k (some d)).length c4]] (W3.alloc (.cells #[.int .i64 (g.next : Int), .slice a4 (g.sl.set k (some d)).length c4] 67)) fun e w' => ∃ a' c', e = .returned (.slice a' 504 c') ∧ Sl w' (.slice a' 504 c') (g.set k d).enc ∧ Below (W3.alloc (.cells #[.int .i64 (g.next : Int), .slice a4 (g.sl.set k (some d)).length c4] 67)).heap.size (W3.alloc (.cells #[.int .i64 (g.next : Int), .slice a4 (g.sl.set k (some d)).length c4] 67)) w') := HBY0
          clear hb3 HWT ho4 HX4 HBY0
          rw [HSETL.out] at HBY HB4
          rw [HSETL.out]
          go_wp2_with (go_at_call 33; refine HBY.out.mono ?_; rintro e W5 ⟨a5, c5, rfl, hs5, hb5⟩)
          go_ret2
          exact ⟨HB4.out.trans (hb5.mono HB4.out.size), _, _, rfl, hs5⟩
theorem RBox.grown {w0 w w' : World} {b : Nat} {nx : Int} {v u : Value} {S : List Slt} {n : Nat} {xs : List Value} (h : RBox w0 w b nx v S) (hu : w.ownsRow w0.heap.size 3 1 u n xs) (hg : w.grownBy w' u.ownBlock) : RBox w0 w' b nx v S := by
  have hOff : Off (match u.ownBlock with | some k => [k] | none => []) w w' := (Off.refl _ _).grown hg (fun k hk => .inl (by rw [hk]; simp))
  have hin : ∀ k ∈ (match u.ownBlock with | some k => [k] | none => []), w0.heap.size ≤ k ∧ v.ownBlock ≠ some k := by
    intro k hk
    cases hv : u.ownBlock with
    | none => rw [hv] at hk; simp at hk
    | some j =>
      rw [hv] at hk
      simp at hk
      subst hk
      refine ⟨(hu.lt k hv).1, ?_⟩
      rcases hu.2 with ⟨rfl, _⟩ | ⟨g, cap, cur, rfl, _, hgg, _⟩
      · simp [Value.ownBlock] at hv
      · have : g = k := by simpa [Value.ownBlock] using hv
        subst this
        exact owns_ne h.own.2 hgg (by decide)
  exact ⟨⟨h.bw.trans (hOff.below h.bw.size (fun k hk => (hin k hk).1)), owns_off h.own.2 hOff (fun k hk => (hin k hk).2)⟩, h.base, (hg.block b (lt_of_heap h.box) (fun e => owns_ne hu h.box (by decide) e.symm)).trans h.box⟩
set_option maxHeartbeats 2000000 in
set_option maxRecDepth 100000 in
theorem rslots_any {w : World} {v : Value} {bs : List UInt8} (h : Sl w v bs) : Calls Try.prog 39 #[v] w fun e w' => ∃ ao c, e = .returned (.slice ao (pgOr bs).slots.length c) ∧ NatsAt w' ao (pgOr bs).slots ∧ Below w.heap.size w w' := by
  have HR := hide (rread_or h)
  have HSL : Hid ((pgOr bs).sl.length ≤ 1000) := by
    unfold pgOr
    cases hd : dec bs with
    | none => show 0 ≤ 1000; omega
    | some g =>
      have := (enc_dec hd).1.size
      simp only [Pg.size, tsize] at this
      show g.sl.length ≤ 1000
      omega
  clear h
  unfold Pg.slots
  generalize (pgOr bs).next = nx at *
  generalize (pgOr bs).sl = S at *
  generalize (dec bs).isSome = okb at *
  have HTK := fun k (hk : k < S.length) => hide (slotsOf_take hk)
  have HLN := fun k => hide (slotsOf_len (S.take k) 0)
  have hsl := HSL.out
  have HTE : Hid (S.take S.length = S) := List.take_length
  go_enter Try.func39, Try.ntmps39
  go_wp2_with (go_at_call 34; refine HR.out.mono ?_; rintro e W1 ⟨ao, c, rfl, ho⟩)
  have HO := hide (RBox.new (nx := (nx : Int)) ho)
  clear ho HR
  generalize W1.heap.size = b at *
  generalize hL : S.length = L at *
  go_loopw [6, 5] (fun i u wr => ∃ k : Nat, k ≤ L ∧ i = .int .i64 (k : Int) ∧ wr.ownsRow w.heap.size 3 1 u (slotsOf (S.take k) 0).length (natCells (slotsOf (S.take k) 0)) ∧ RBox w wr b (nx : Int) (.slice ao L c) S) (fun i _ _ => L - (intOf i).toNat)
  case atStart => exact ⟨0, Nat.zero_le _, rfl, World.ownsRow_nil _ _ _ _, HO.out⟩
  case round =>
    obtain ⟨k, hk, rfl, hu, ho⟩ := hrel
    have HU := hide hu
    have HOW := hide ho
    have x1 := HOW.out.c1
    clear hu ho HO
    by_cases hlt : k < L
    · obtain ⟨g, o, rfl, k1, k2⟩ := HOW.out.own.at.get k (by omega)
      have HT := HTK k (by omega)
      have hgl := World.block_lt_of_cell? wr _ k1
      clear k2
      cases hb : (S.getD k none).isSome with
      | false =>
        rw [hb] at k1
        have HE : Hid (slotsOf (S.take (k + 1)) 0 = slotsOf (S.take k) 0) := by rw [Hid, HT.out, hb]; simp
        clear HT hb hL
        go_wp2
        go_roundw
        case rel => exact ⟨k + 1, by omega, by go_num, by rw [HE.out]; exact HU.out, HOW.out⟩
        case measure => simp [intOf]; omega
      | true =>
        rw [hb] at k1
        have HE : Hid (slotsOf (S.take (k + 1)) 0 = slotsOf (S.take k) 0 ++ [k]) := by rw [Hid, HT.out, hb]; simp
        have hll : (slotsOf (S.take k) 0).length ≤ 1000 := by have := (HLN k).out; rw [List.length_take] at this; omega
        clear HT hb hL
        have hbi := buildInt k wr
        have HOB := hide (HOW.out.below ((Below.refl _ _).alloc (Nat.le_refl _) (.cells #[.int .i64 (k : Int)] 3)))
        have HUB := hide (owns_below HU.out ((Below.refl _ _).alloc (Nat.le_refl _) (.cells #[.int .i64 (k : Int)] 3)) (Nat.le_refl _))
        have HROW : Hid (Row (wr.alloc (.cells #[.int .i64 (k : Int)] 3)) (.slice (some ⟨wr.heap.size, 0, none⟩) 1 1) 1 [.int .i64 (k : Int)]) := ⟨_, 1, rfl, Nat.le_refl _, by simp only [maxLen]; omega, fun _ => ⟨wr.heap.size, 0, rfl, fun j u hu => by rw [Nat.zero_add, cell_row (heap_alloc_new wr _)]; simpa using hu⟩⟩
        generalize slotsOf (S.take k) 0 = l at *
        go_wp2_with (refine wpList_append_row rfl (.tmp 25) (.tmp 27) 31 rfl w.heap.size 3 (.int .i64 0) 1 8 Try.underlying31 Try.info3 rfl (by omega) _ _ _ _ 1 _ rfl rfl HUB.out HROW.out rfl (by simp [Value.oneCell']) (by omega) (by omega) HOB.out.bw.size ?_; intro v3 W3 ho3 hg3)
        go_roundw
        case rel =>
          refine ⟨k + 1, by omega, by go_num, ?_, HOB.out.grown HUB.out hg3⟩
          rw [HE.out, List.length_append, List.length_singleton]
          unfold natCells at *
          rw [List.map_append]
          exact ho3
        case measure => simp [intOf]; omega
    · have hkL : k = L := by omega
      subst hkL
      rw [HTE.out] at HU
      go_wp2
      go_ret
      obtain ⟨a9, c9, e9⟩ := owns_len HU.out
      subst e9
      exact ⟨_, _, rfl, nats_of HU.out, HOW.out.bw⟩
end Go.Proofs.Ytdddeneppciiiaa
