/- The calls that only read a page: New, Check, Next, Free, Clone, Get. -/
import Derived.Test.YtdddeneppciiiaaRead
namespace Go.Proofs.Ytdddeneppciiiaa
open Go.RowKit
set_option linter.unusedVariables false
set_option linter.unusedSimpArgs false

theorem read_none {w : World} {v : Value} {bs : List UInt8} (h : Sl w v bs) (hd : dec bs = none) :
    Calls Try.prog 27 #[v] w fun e w' => e = .returned (.tuple #[.agg #[.int .i64 0, .slice none 0 0], .bool false]) ∧ Below w.heap.size w w' := by
  refine (read_any h).mono ?_
  rintro e w' ⟨h1, h2⟩
  rw [hd] at h2
  exact ⟨h2, h1⟩
theorem read_some {w : World} {v : Value} {bs : List UInt8} {g : Pg} (h : Sl w v bs) (hd : dec bs = some g) :
    Calls Try.prog 27 #[v] w fun e w' => ∃ ao c, e = .returned (.tuple #[.agg #[.int .i64 (g.next : Int), .slice ao g.sl.length c], .bool true]) ∧ SlotsOwn w w' (.slice ao g.sl.length c) g.sl := by
  refine (read_any h).mono ?_
  rintro e w' ⟨h1, h2⟩
  rw [hd] at h2
  obtain ⟨sv, rfl, ho⟩ := h2
  obtain ⟨hb, R, h3, h4⟩ := ho
  obtain ⟨ao, c, rfl⟩ := owns_len h3
  exact ⟨ao, c, rfl, hb, R, h3, h4⟩
theorem Blk.sl {w : World} {g : Nat} {X : List UInt8} (h : Blk w g X) (hl : X.length = 504) : Sl w (.slice (some ⟨g, 0, none⟩) 504 504) X := by
  refine ⟨_, 504, by rw [hl], by omega, by simp only [maxLen]; omega, fun _ => ⟨g, 0, rfl, fun j u hu => ?_⟩⟩
  rw [Nat.zero_add, cell_row h]
  simpa using hu
/-- What 'bytes' tells, as bytes that may be read. -/
theorem bytes_sl {w : World} {v : Value} {g : Pg} (h : SlotsAt w v g.sl) (hn : g.next < 4294967296) (hs : g.size ≤ 504) :
    Calls Try.prog 26 #[.agg #[.int .i64 (g.next : Int), v]] w fun e w' => ∃ q, e = .returned (.slice (some ⟨q, 0, none⟩) 504 504) ∧ Sl w' (.slice (some ⟨q, 0, none⟩) 504 504) g.enc ∧ Below w.heap.size w w' := by
  refine (bytes_any h g.next hn hs).mono ?_
  rintro e w' ⟨q, rfl, h1, h2, h3⟩
  exact ⟨q, rfl, Blk.sl h2 (length_enc g hs), h3⟩

set_option maxHeartbeats 400000 in
theorem new_any (w : World) : Calls Try.prog 8 #[] w fun e w' => ∃ q, e = .returned (.slice (some ⟨q, 0, none⟩) 504 504) ∧ Sl w' (.slice (some ⟨q, 0, none⟩) 504 504) Pg.zero.enc ∧ Below w.heap.size w w' := by
  have HB := hide (bytes_sl (w := w) (g := Pg.zero) (v := .slice none 0 0) ⟨none, 0, rfl, Nat.le_refl _, Nat.zero_le _, fun i hi => absurd hi (Nat.not_lt_zero _)⟩ (by decide) (by decide))
  go_enter Try.func8, Try.ntmps8
  go_wp2_with (go_at_call 26; refine HB.out.mono ?_; rintro e W1 ⟨q, rfl, hs, hb⟩)
  go_ret
  exact ⟨q, rfl, hs, hb⟩
set_option maxHeartbeats 400000 in
theorem check_any {w : World} {v : Value} {bs : List UInt8} (h : Sl w v bs) : Calls Try.prog 12 #[v] w fun e w' => e = .returned (.bool (dec bs).isSome) ∧ Below w.heap.size w w' := by
  cases hd : dec bs with
  | none =>
    have HR := hide (read_none h hd)
    clear h
    go_enter Try.func12, Try.ntmps12
    go_wp2_with (go_at_call 27; refine HR.out.mono ?_; rintro e W1 ⟨rfl, hb⟩)
    go_ret
    exact ⟨rfl, hb.alloc hb.size _⟩
  | some g =>
    have HR := hide (read_some h hd)
    clear h
    go_enter Try.func12, Try.ntmps12
    go_wp2_with (go_at_call 27; refine HR.out.mono ?_; rintro e W1 ⟨ao, c, rfl, ho⟩)
    go_ret
    exact ⟨rfl, ho.1.alloc ho.1.size _⟩
def nextOf (bs : List UInt8) : Nat := match dec bs with | none => 0 | some g => g.next
set_option maxHeartbeats 400000 in
theorem next_any {w : World} {v : Value} {bs : List UInt8} (h : Sl w v bs) : Calls Try.prog 11 #[v] w fun e w' => e = .returned (.int .i64 (nextOf bs : Nat)) ∧ Below w.heap.size w w' := by
  cases hd : dec bs with
  | none =>
    have HR := hide (read_none h hd)
    have HN : Hid (nextOf bs = 0) := by unfold nextOf; rw [Hid, hd]
    rw [HN.out]
    clear h
    go_enter Try.func11, Try.ntmps11
    go_wp2_with (go_at_call 27; refine HR.out.mono ?_; rintro e W1 ⟨rfl, hb⟩)
    go_ret
    exact ⟨rfl, hb.alloc hb.size _⟩
  | some g =>
    have HR := hide (read_some h hd)
    have HN : Hid (nextOf bs = g.next) := by unfold nextOf; rw [Hid, hd]
    rw [HN.out]
    clear h
    go_enter Try.func11, Try.ntmps11
    go_wp2_with (go_at_call 27; refine HR.out.mono ?_; rintro e W1 ⟨ao, c, rfl, ho⟩)
    go_ret
    exact ⟨rfl, ho.1.alloc ho.1.size _⟩
def freeOf (bs : List UInt8) : Nat := match dec bs with | none => 0 | some g => g.free
set_option maxHeartbeats 400000 in
theorem free_any {w : World} {v : Value} {bs : List UInt8} (h : Sl w v bs) : Calls Try.prog 13 #[v] w fun e w' => e = .returned (.int .i64 (freeOf bs : Nat)) ∧ Below w.heap.size w w' := by
  cases hd : dec bs with
  | none =>
    have HR := hide (read_none h hd)
    have HN : Hid (freeOf bs = 0) := by unfold freeOf; rw [Hid, hd]
    rw [HN.out]
    clear h
    go_enter Try.func13, Try.ntmps13
    go_wp2_with (go_at_call 27; refine HR.out.mono ?_; rintro e W1 ⟨rfl, hb⟩)
    go_ret
    exact ⟨rfl, hb.alloc hb.size _⟩
  | some g =>
    have HR := hide (read_some h hd)
    have hg := (enc_dec hd).1.size
    have HN : Hid (freeOf bs = g.free) := by unfold freeOf; rw [Hid, hd]
    rw [HN.out]
    clear h HN
    have HRM : Hid (∀ W ao c, SlotsAt W (.slice ao g.sl.length c) g.sl → Calls Try.prog 29 #[.agg #[.int .i64 (g.next : Int), .slice ao g.sl.length c]] W fun e w' => e = .returned (.int .i64 (504 - (g.size : Int))) ∧ Below W.heap.size W w') := fun W ao c hs => room_any hs g.next (show tsize g.sl ≤ _ by have : g.size = tsize g.sl := rfl; omega)
    have HF : Hid (g.free = min (504 - 4 - g.size) 480) := rfl
    clear hd
    generalize g.size = T at *
    generalize g.free = F at *
    go_enter Try.func13, Try.ntmps13
    go_wp2_with (first | (go_at_call 27; refine HR.out.mono ?_; rintro e W1 ⟨ao, c, rfl, ho⟩; have hA := hide (ho.below ((Below.refl _ _).alloc (Nat.le_refl _) (.cells #[.int .i64 (g.next : Int), .slice ao g.sl.length c] 56)))) | (go_at_call 29; refine (HRM.out _ _ _ hA.out.at).mono ?_; rintro e W2 ⟨rfl, hb⟩))
    all_goals go_ret
    all_goals refine ⟨?_, hA.out.1.trans (hb.mono hA.out.1.size)⟩
    all_goals rw [HF.out]
    all_goals refine congrArg (fun x => Ending.returned (Value.int .i64 x)) (?_ : (_ : Int) = _)
    all_goals omega
/-! ### Clone -/
theorem owns_new (w : World) (base : Nat) (hb : base ≤ w.heap.size) : (w.alloc (.cells #[] 5)).ownsRow base 5 1 (.slice (some ⟨w.heap.size, 0, none⟩) 0 0) 0 [] :=
  ⟨rfl, .inr ⟨w.heap.size, 0, #[], rfl, hb, heap_alloc_new w _, Nat.le_refl _, Nat.zero_le _, rfl, rfl⟩⟩
theorem buildNone (w : World) : (Instr.buildSlice 23 0 #[]).run Try.prog w = .ok (.slice (some ⟨w.heap.size, 0, none⟩) 0 0) (w.alloc (.cells #[] 5)) := by
  kernel_rfl
theorem isNil0 (c : Nat) (w : World) : (binOp .eql 23 (.slice none 0 c) (.slice none 0 0)).run Try.prog w = .ok (.bool true) w := by kernel_rfl
theorem isNil1 (a : Addr) (n c : Nat) (w : World) : (binOp .eql 23 (.slice (some a) n c) (.slice none 0 0)).run Try.prog w = .ok (.bool false) w := by kernel_rfl
set_option maxHeartbeats 400000 in
theorem clone_any {w : World} {v : Value} {bs : List UInt8} (h : Sl w v bs) (hl : bs.length ≤ 140737488355328) : Calls Try.prog 30 #[v] w fun e w' => ∃ v', e = .returned v' ∧ Sl w' v' bs ∧ Below w.heap.size w w' := by
  have H := hide h
  obtain ⟨ao, c, rfl, hc1, hc2⟩ := h.len
  cases ao with
  | none =>
    have hb : bs = [] := by
      refine Classical.byContradiction fun hne => ?_
      obtain ⟨ao, c', e, _, _, h3⟩ := h
      injection e with e1 e2 e3
      subst e1
      obtain ⟨g, o, ea, _⟩ := h3 (fun h0 => hne (List.map_eq_nil_iff.1 h0))
      cases ea
    subst hb
    have hq := isNil0 c
    clear h hl hc1 hc2
    go_enter Try.func30, Try.ntmps30
    go_wp2
    go_ret
    exact ⟨_, rfl, Sl.nil w, Below.refl _ _⟩
  | some a =>
    have HB : Hid (Below w.heap.size w (w.alloc (.cells #[] 5))) := (Below.refl _ _).alloc (Nat.le_refl _) _
    have HX := hide (h.belowW HB.out)
    have hbn := buildNone
    have hq := isNil1 a bs.length c
    have HO := hide (owns_new w w.heap.size (Nat.le_refl _))
    clear h
    go_enter Try.func30, Try.ntmps30
    go_wp2_with (refine wpList_append_row rfl (.tmp 5) (.tmp 6) 23 rfl w.heap.size 5 (.int .u8 0) 1 1 Try.underlying23 Try.info5 rfl (by omega) _ 0 [] _ bs.length (secCells bs) rfl rfl HO.out HX.out (by rw [length_secCells]; omega) (one_secCells bs) (by omega) (by omega) HB.out.size ?_; intro v' W' ho hgr)
    go_ret
    rw [Nat.zero_add, List.nil_append] at ho
    refine ⟨_, rfl, Row.of_owns ho, ?_⟩
    have hgr' : (w.alloc (.cells #[] 5)).grownBy W' (some w.heap.size) := hgr
    have : Off [w.heap.size] (w.alloc (.cells #[] 5)) W' := (Off.refl _ _).grown hgr' (fun k hk => .inl (by simp at hk; simp [hk]))
    exact HB.out.trans (this.below HB.out.size (by simp))
/-! ### Get -/
def getOf (bs : List UInt8) (i : Int) : Slt := match dec bs with | none => none | some g => if 0 ≤ i then g.sl.getD i.toNat none else none
theorem has_get {S : List Slt} {i : Int} : hasB S i = (if 0 ≤ i then S.getD i.toNat none else none).isSome := by
  unfold hasB
  by_cases h : 0 ≤ i
  · rw [if_pos h]; simp [h]
  · rw [if_neg h]; simp [h]
def GetEnd (w : World) (s : Slt) (e : Ending) (w' : World) : Prop :=
  Below w.heap.size w w' ∧ match s with
  | none => e = .returned (.tuple #[.slice none 0 0, .bool false])
  | some d => ∃ v, e = .returned (.tuple #[v, .bool true]) ∧ Sl w' v d
set_option maxHeartbeats 1000000 in
theorem get_any {w : World} {v : Value} {bs : List UInt8} (h : Sl w v bs) (i : Int) : Calls Try.prog 15 #[v, .int .i64 i] w fun e w' => GetEnd w (getOf bs i) e w' := by
  cases hd : dec bs with
  | none =>
    have HR := hide (read_none h hd)
    have HN : Hid (getOf bs i = none) := by unfold getOf; rw [Hid, hd]
    rw [HN.out]
    clear h
    go_enter Try.func15, Try.ntmps15
    go_wp2_with (go_at_call 27; refine HR.out.mono ?_; rintro e W1 ⟨rfl, hb⟩)
    go_ret2
    exact ⟨hb.alloc hb.size _, rfl⟩
  | some g =>
    have HR := hide (read_some h hd)
    have HN : Hid (getOf bs i = if 0 ≤ i then g.sl.getD i.toNat none else none) := by unfold getOf; rw [Hid, hd]
    have hgood := (enc_dec hd).1
    have HSH : Hid (∀ d, some d ∈ g.sl → d.length ≤ 480) := hgood.short
    have HHAS : Hid (∀ W ao c, SlotsAt W (.slice ao g.sl.length c) g.sl → Calls Try.prog 31 #[.agg #[.int .i64 (g.next : Int), .slice ao g.sl.length c], .int .i64 i] W fun e w' => e = .returned (.bool (hasB g.sl i)) ∧ Below W.heap.size W w') := fun W ao c hs => has_any hs g.next i
    clear h hd hgood
    rw [HN.out]
    cases hx : (if 0 ≤ i then g.sl.getD i.toNat none else none) with
    | none =>
      have HB : Hid (hasB g.sl i = false) := by rw [Hid, has_get, hx]; rfl
      rw [HB.out] at HHAS
      clear hx HN
      go_enter Try.func15, Try.ntmps15
      go_wp2_with (first | (go_at_call 27; refine HR.out.mono ?_; rintro e W1 ⟨ao, c, rfl, ho⟩; have hA := hide (ho.below ((Below.refl _ _).alloc (Nat.le_refl _) (.cells #[.int .i64 (g.next : Int), .slice ao g.sl.length c] 56)))) | (go_at_call 31; refine (HHAS.out _ _ _ hA.out.at).mono ?_; rintro e W2 ⟨rfl, hb⟩))
      go_ret2
      exact ⟨hA.out.1.trans (hb.mono hA.out.1.size), rfl⟩
    | some d =>
      have HB : Hid (hasB g.sl i = true) := by rw [Hid, has_get, hx]; rfl
      rw [HB.out] at HHAS
      have hi : 0 ≤ i := by
        refine Classical.byContradiction fun hn => ?_
        rw [if_neg hn] at hx; cases hx
      obtain ⟨k, rfl⟩ : ∃ k : Nat, i = (k : Int) := ⟨i.toNat, by omega⟩
      rw [if_pos hi, Int.toNat_natCast] at hx
      have hk : k < g.sl.length := by
        refine Classical.byContradiction fun hn => ?_
        rw [List.getD_eq_getElem?_getD, List.getElem?_eq_none (by omega)] at hx; cases hx
      have hdl : d.length ≤ 480 := HSH.out d (by
        rw [List.getD_eq_getElem?_getD, List.getElem?_eq_getElem hk] at hx
        simp at hx
        rw [← hx]; exact List.getElem_mem hk)
      have HX := hide hx
      clear hx HN hi HSH HB
      go_enter Try.func15, Try.ntmps15
      go_wp2_with fail
      refine HR.out.mono ?_
      rintro e W1 ⟨ao, c, rfl, ho⟩
      have hA := hide (ho.below ((Below.refl _ _).alloc (Nat.le_refl _) (.cells #[.int .i64 (g.next : Int), .slice ao g.sl.length c] 56)))
      have HBX := hide (heap_alloc_new W1 (.cells #[.int .i64 (g.next : Int), .slice ao g.sl.length c] 56))
      have hbl := hide (World.size_alloc W1 (.cells #[.int .i64 (g.next : Int), .slice ao g.sl.length c] 56))
      clear ho HR
      go_wp2_with fail
      refine (HHAS.out _ _ _ hA.out.at).mono ?_
      rintro e W2 ⟨rfl, hb⟩
      have hA2 := hide (hA.out.below hb)
      have hq1 := (hb.block _ (by rw [hbl.out]; omega)).trans HBX.out
      have hc1 : W2.cell? ⟨W1.heap.size, 1, none⟩ = some (.slice ao g.sl.length c) := by rw [cell_row hq1]; rfl
      obtain ⟨ao', c', e', _, _, h3⟩ := hA2.out.at
      injection e' with e1 e2 e3
      subst e1 e3
      obtain ⟨gg, oo, m, ad, ac, rfl, k1, k2, k3, k4⟩ := h3 k hk
      rw [HX.out, Option.getD_some] at k4
      have hcl := hide (clone_any k4 (by omega))
      clear h3 k4 k1 k3 hq1 HHAS hb e2 HBX
      go_wp2_with (go_at_call 30; refine hcl.out.mono ?_; rintro e W3 ⟨v', rfl, hs3, hb3⟩)
      go_ret2
      exact ⟨(hA2.out.1.trans (hb3.mono hA2.out.1.size)), _, rfl, hs3⟩
end Go.Proofs.Ytdddeneppciiiaa
