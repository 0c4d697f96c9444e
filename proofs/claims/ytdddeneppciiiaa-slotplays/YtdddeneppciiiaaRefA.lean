/- The document's answer: the calls that only read a page. -/
import Derived.Test.YtdddeneppciiiaaRefR
namespace Go.Proofs.Ytdddeneppciiiaa
open Go.RowKit
set_option linter.unusedVariables false
set_option linter.unusedSimpArgs false

theorem rread_none {w : World} {v : Value} {bs : List UInt8} (h : Sl w v bs) (hd : dec bs = none) :
    Calls Try.prog 34 #[v] w fun e w' => e = .returned (.tuple #[.agg #[.int .i64 0, .slice none 0 0], .bool false]) ∧ Below w.heap.size w w' := by
  refine (rread_any h).mono ?_
  rintro e w' ⟨h1, h2⟩
  rw [refDec_eq, hd] at h2
  exact ⟨h2, h1⟩
theorem rread_some {w : World} {v : Value} {bs : List UInt8} {g : Pg} (h : Sl w v bs) (hd : dec bs = some g) :
    Calls Try.prog 34 #[v] w fun e w' => ∃ ao c, e = .returned (.tuple #[.agg #[.int .i64 (g.next : Int), .slice ao g.sl.length c], .bool true]) ∧ RSOwn w w' (.slice ao g.sl.length c) g.sl := by
  refine (rread_any h).mono ?_
  rintro e w' ⟨h1, h2⟩
  rw [refDec_eq, hd] at h2
  exact h2
theorem rread_or {w : World} {v : Value} {bs : List UInt8} (h : Sl w v bs) :
    Calls Try.prog 34 #[v] w fun e w' => ∃ ao c, e = .returned (.tuple #[.agg #[.int .i64 ((pgOr bs).next : Int), .slice ao (pgOr bs).sl.length c], .bool (dec bs).isSome]) ∧ RSOwn w w' (.slice ao (pgOr bs).sl.length c) (pgOr bs).sl := by
  cases hd : dec bs with
  | none =>
    have e : pgOr bs = Pg.zero := by unfold pgOr; rw [hd]; rfl
    rw [e]
    refine (rread_none h hd).mono ?_
    rintro e w' ⟨rfl, hb⟩
    exact ⟨none, 0, rfl, hb, World.ownsRow_nil _ _ _ _⟩
  | some g =>
    have e : pgOr bs = g := by unfold pgOr; rw [hd]; rfl
    rw [e]
    exact rread_some h hd
theorem rbytes_sl {w0 w : World} {b : Nat} {nx : Int} {ao : Option Addr} {c n : Nat} {g : Pg} (h : RBox w0 w b nx (.slice ao n c) g.sl) (hn : g.next < 4294967296) (hs : g.size ≤ 504) :
    Calls Try.prog 33 #[.agg #[.int .i64 (g.next : Int), .slice ao n c]] w fun e w' => ∃ a' c', e = .returned (.slice a' 504 c') ∧ Sl w' (.slice a' 504 c') g.enc ∧ Below w.heap.size w w' := by
  have hr := h.own.at
  obtain ⟨ao', c'', e, _⟩ := hr.len
  injection e with e1 e2 e3
  subst e1 e2 e3
  refine (rbytes_any hr g.next hn hs).mono ?_
  rintro e w' ⟨v', rfl, hs', hb⟩
  obtain ⟨a', c', e', _⟩ := hs'.len
  rw [length_encN (show tsize g.sl ≤ 504 from hs)] at e'
  subst e'
  exact ⟨a', c', rfl, hs', hb⟩
set_option maxHeartbeats 400000 in
theorem rnew_any (w : World) : Calls Try.prog 18 #[] w fun e w' => ∃ a' c', e = .returned (.slice a' 504 c') ∧ Sl w' (.slice a' 504 c') Pg.zero.enc ∧ Below w.heap.size w w' := by
  have HB : Hid (Calls Try.prog 33 #[.agg #[.int .i64 0, .slice none 0 0]] w fun e w' => ∃ v', e = .returned v' ∧ Sl w' v' (encN 0 0 []) ∧ Below w.heap.size w w') := rbytes_any (S := []) (show RSAt w (.slice none 0 0) [] from Row.nil w) 0 (by decide) (by decide)
  go_enter Try.func18, Try.ntmps18
  go_wp2_with (go_at_call 33; refine HB.out.mono ?_; rintro e W1 ⟨v', rfl, hs, hb⟩)
  go_ret
  obtain ⟨a', c', e', _⟩ := hs.len
  rw [length_encN (by decide)] at e'
  subst e'
  exact ⟨a', c', rfl, hs, hb⟩
set_option maxHeartbeats 400000 in
theorem rhas_any {w : World} {ao : Option Addr} {c n : Nat} {S : List Slt} (h : RSAt w (.slice ao n c) S) (hn : n = S.length) (nx : Int) (i : Int) :
    Calls Try.prog 36 #[.agg #[.int .i64 nx, .slice ao n c], .int .i64 i] w fun e w' => e = .returned (.bool (hasB S i)) ∧ Below w.heap.size w w' := by
  have hc2 : n ≤ c ∧ c ≤ 9223372036854775807 := by
    obtain ⟨ao', c', e, h1, h2⟩ := h.len
    injection e with e1 e2 e3
    simp only [maxLen] at h2
    omega
  by_cases a : i < 0
  · have e : hasB S i = false := by simp [hasB]; omega
    rw [e]
    clear e h hn
    have a' : ¬ (0 ≤ i) := by omega
    go_enter Try.func36, Try.ntmps36
    go_wp2
    go_ret
    exact ⟨rfl, (Below.refl _ _).alloc (Nat.le_refl _) _⟩
  · obtain ⟨k, rfl⟩ : ∃ k : Nat, i = (k : Int) := ⟨i.toNat, by omega⟩
    by_cases b : k < n
    · obtain ⟨g, o, rfl, k1, k2⟩ := h.get k (by omega)
      have e : hasB S k = (S.getD k none).isSome := by simp [hasB]
      have hg := World.block_lt_of_cell? w _ k1
      rw [e]
      clear e h hn a k2
      generalize (S.getD k none).isSome = B at *
      go_enter Try.func36, Try.ntmps36
      go_wp2
      go_ret
      exact ⟨rfl, (Below.refl _ _).alloc (Nat.le_refl _) _⟩
    · have e : hasB S k = false := by simp [hasB]; rw [List.getElem?_eq_none (by omega)]; rfl
      rw [e]
      clear e h hn
      go_enter Try.func36, Try.ntmps36
      go_wp2
      go_ret
      exact ⟨rfl, (Below.refl _ _).alloc (Nat.le_refl _) _⟩
set_option maxHeartbeats 1000000 in
theorem rget_any {w : World} {v : Value} {bs : List UInt8} (h : Sl w v bs) (i : Int) : Calls Try.prog 37 #[v, .int .i64 i] w fun e w' => e = .returned (.tuple #[.string (strOf ((getOf bs i).getD [])), .bool (getOf bs i).isSome]) ∧ Below w.heap.size w w' := by
  cases hd : dec bs with
  | none =>
    have HR := hide (rread_none h hd)
    have HN : Hid (getOf bs i = none) := by unfold getOf; rw [Hid, hd]
    rw [HN.out]
    clear h
    go_enter Try.func37, Try.ntmps37
    go_wp2_with (go_at_call 34; refine HR.out.mono ?_; rintro e W1 ⟨rfl, hb⟩)
    go_ret2
    exact ⟨rfl, hb.alloc hb.size _⟩
  | some g =>
    have HR := hide (rread_some h hd)
    have HN : Hid (getOf bs i = if 0 ≤ i then g.sl.getD i.toNat none else none) := by unfold getOf; rw [Hid, hd]
    have HHAS : Hid (∀ W ao c, RSAt W (.slice ao g.sl.length c) g.sl → Calls Try.prog 36 #[.agg #[.int .i64 (g.next : Int), .slice ao g.sl.length c], .int .i64 i] W fun e w' => e = .returned (.bool (hasB g.sl i)) ∧ Below W.heap.size W w') := fun W ao c hs => rhas_any hs rfl g.next i
    clear h hd
    rw [HN.out]
    cases hx : (if 0 ≤ i then g.sl.getD i.toNat none else none) with
    | none =>
      have HB : Hid (hasB g.sl i = false) := by rw [Hid, has_get, hx]; rfl
      rw [HB.out] at HHAS
      clear hx HN
      go_enter Try.func37, Try.ntmps37
      go_wp2_with (first | (go_at_call 34; refine HR.out.mono ?_; rintro e W1 ⟨ao, c, rfl, ho⟩; have HX := hide (RBox.new (nx := (g.next : Int)) ho)) | (go_at_call 36; refine (HHAS.out _ _ _ HX.out.own.at).mono ?_; rintro e W2 ⟨rfl, hb⟩))
      go_ret2
      exact ⟨rfl, HX.out.bw.trans (hb.mono HX.out.bw.size)⟩
    | some d =>
      have HB : Hid (hasB g.sl i = true) := by rw [Hid, has_get, hx]; rfl
      rw [HB.out] at HHAS
      have hi : 0 ≤ i := by
        refine Classical.byContradiction fun hn => ?_
        rw [if_neg hn] at hx; cases hx
      obtain ⟨k, rfl⟩ : ∃ k : Nat, i = (k : Int) := ⟨i.toNat, by omega⟩
      rw [if_pos hi, Int.toNat_natCast] at hx
      have hk : k < g.sl.length := by
        refine Classical.byContradiction fun hn => ?_
        rw [List.getD_eq_getElem?_getD, List.getElem?_eq_none (by omega)] at hx; cases hx
      have HX0 := hide hx
      clear hx HN hi HB
      go_enter Try.func37, Try.ntmps37
      go_wp2_with fail
      refine HR.out.mono ?_
      rintro e W1 ⟨ao, c, rfl, ho⟩
      have HX := hide (RBox.new (nx := (g.next : Int)) ho)
      clear ho HR
      go_wp2_with fail
      refine (HHAS.out _ _ _ HX.out.own.at).mono ?_
      rintro e W2 ⟨rfl, hb⟩
      have HX2 := hide (HX.out.below hb)
      have c1 := HX2.out.c1
      obtain ⟨gg, oo, rfl, k1, k2⟩ := HX2.out.own.at.get k hk
      rw [HX0.out] at k2
      have k2 : W2.cell? ⟨gg, oo + k * 2 + 1, none⟩ = some (.string (strOf d)) := k2
      clear HHAS hb HX k1
      generalize strOf d = sd at *
      go_wp2
      go_ret2
      exact ⟨rfl, HX2.out.bw⟩
set_option maxHeartbeats 1000000 in
set_option maxRecDepth 100000 in
theorem rfree_any {w : World} {v : Value} {bs : List UInt8} (h : Sl w v bs) : Calls Try.prog 40 #[v] w fun e w' => e = .returned (.int .i64 (freeOf bs : Nat)) ∧ Below w.heap.size w w' := by
  cases hd : dec bs with
  | none =>
    have HR := hide (rread_none h hd)
    have HN : Hid (freeOf bs = 0) := by unfold freeOf; rw [Hid, hd]
    rw [HN.out]
    clear h
    go_enter Try.func40, Try.ntmps40
    go_wp2_with (go_at_call 34; refine HR.out.mono ?_; rintro e W1 ⟨rfl, hb⟩)
    go_ret
    exact ⟨rfl, hb.alloc hb.size _⟩
  | some g =>
    have HR := hide (rread_some h hd)
    have hg := (enc_dec hd).1.size
    have HN : Hid (freeOf bs = g.free) := by unfold freeOf; rw [Hid, hd]
    rw [HN.out]
    clear h HN
    have HRM : Hid (∀ W ao c, RSAt W (.slice ao g.sl.length c) g.sl → Calls Try.prog 46 #[.slice ao g.sl.length c] W fun e w' => e = .returned (.int .i64 (g.size : Nat)) ∧ w' = W) := fun W ao c hs => rsize_any hs (show tsize g.sl ≤ _ by have : g.size = tsize g.sl := rfl; omega)
    have HF : Hid (g.free = min (504 - 4 - g.size) 480) := rfl
    clear hd
    generalize g.size = T at *
    generalize g.free = F at *
    go_enter Try.func40, Try.ntmps40
    go_wp2_with (first | (go_at_call 34; refine HR.out.mono ?_; rintro e W1 ⟨ao, c, rfl, ho⟩; have HX := hide (RBox.new (nx := (g.next : Int)) ho)) | (go_at_call 46; refine (HRM.out _ _ _ HX.out.own.at).mono ?_; rintro e W2 ⟨rfl, hw2⟩; have hw2 := hw2; subst hw2))
    all_goals go_ret
    all_goals refine ⟨?_, HX.out.bw⟩
    all_goals rw [HF.out]
    all_goals refine congrArg (fun x => Ending.returned (Value.int .i64 x)) (?_ : (_ : Int) = _)
    all_goals omega
set_option maxHeartbeats 1000000 in
theorem rsetNext_any {w : World} {v : Value} {bs : List UInt8} (h : Sl w v bs) (n : Int) : Calls Try.prog 23 #[v, .int .i64 n] w fun e w' => ∃ v', e = .returned v' ∧ Sl w' v' (setNextOf bs n) ∧ Below w.heap.size w w' := by
  have HSL := hide h
  cases hd : dec bs with
  | none =>
    have HR := hide (rread_none h hd)
    have HN : Hid (setNextOf bs n = bs) := by unfold setNextOf; rw [Hid, hd]
    rw [HN.out]
    clear h
    go_enter Try.func23, Try.ntmps23
    go_wp2_with (go_at_call 34; refine HR.out.mono ?_; rintro e W1 ⟨rfl, hb⟩)
    go_ret
    exact ⟨_, rfl, HSL.out.belowW (hb.alloc hb.size _), hb.alloc hb.size _⟩
  | some g =>
    have HR := hide (rread_some h hd)
    have hgood := (enc_dec hd).1
    by_cases hn : 0 ≤ n ∧ n ≤ 4294967295
    · obtain ⟨k, rfl⟩ : ∃ k : Nat, n = (k : Int) := ⟨n.toNat, by omega⟩
      have HN : Hid (setNextOf bs k = Pg.enc ⟨k, g.sl⟩) := by unfold setNextOf; rw [Hid, hd]; simp only [if_pos hn, Int.toNat_natCast]
      rw [HN.out]
      have HBY : Hid (∀ W b ao c, RBox w W b (k : Int) (.slice ao g.sl.length c) g.sl → Calls Try.prog 33 #[.agg #[.int .i64 (k : Int), .slice ao g.sl.length c]] W fun e w' => ∃ a' c', e = .returned (.slice a' 504 c') ∧ Sl w' (.slice a' 504 c') (Pg.enc ⟨k, g.sl⟩) ∧ Below W.heap.size W w') := fun W b ao c hb => rbytes_sl (g := ⟨k, g.sl⟩) hb (show k < _ by omega) hgood.size
      clear h hd hgood HN
      go_enter Try.func23, Try.ntmps23
      go_wp2_with fail
      refine HR.out.mono ?_
      rintro e W1 ⟨ao, c, rfl, ho⟩
      have HX := hide (RBox.new (nx := (k : Int)) ho)
      clear ho HR
      go_wp2_with (go_at_call 33; refine (HBY.out _ _ _ _ HX.out).mono ?_; rintro e W3 ⟨a', c', rfl, hs3, hb3⟩)
      go_ret
      exact ⟨_, rfl, hs3, HX.out.bw.trans (hb3.mono HX.out.bw.size)⟩
    · have HN : Hid (setNextOf bs n = bs) := by unfold setNextOf; rw [Hid, hd]; simp only [if_neg hn]
      rw [HN.out]
      clear h hd hgood HN
      by_cases h0 : n < 0
      · go_enter Try.func23, Try.ntmps23
        go_wp2_with (go_at_call 34; refine HR.out.mono ?_; rintro e W1 ⟨ao, c, rfl, ho⟩; have HX := hide (RBox.new (nx := (g.next : Int)) ho))
        go_ret
        exact ⟨_, rfl, HSL.out.belowW HX.out.bw, HX.out.bw⟩
      · have h1 : 4294967295 < n := by omega
        go_enter Try.func23, Try.ntmps23
        go_wp2_with (go_at_call 34; refine HR.out.mono ?_; rintro e W1 ⟨ao, c, rfl, ho⟩; have HX := hide (RBox.new (nx := (g.next : Int)) ho))
        go_ret
        exact ⟨_, rfl, HSL.out.belowW HX.out.bw, HX.out.bw⟩
end Go.Proofs.Ytdddeneppciiiaa
