/- The calls that tell a new page: SetNext, Put, Del. -/
import Derived.Test.YtdddeneppciiiaaApi
import Derived.Deep.RegionWith
import Derived.Deep.CutBlock
import Derived.Deep.DeepCutAuto
namespace Go.Proofs.Ytdddeneppciiiaa
open Go.RowKit
set_option linter.unusedVariables false
set_option linter.unusedSimpArgs false

/-- A page's box: the page's own cell beside its slots. -/
structure Box (w0 w : World) (b : Nat) (nx : Int) (v : Value) (S : List Slt) : Prop where
  own : SlotsOwn w0 w v S
  base : w0.heap.size ≤ b
  box : w.heap[b]? = some (.cells #[.int .i64 nx, v] 56 (0, 0))
theorem Box.below {w0 w w' : World} {b : Nat} {nx : Int} {v : Value} {S : List Slt} (h : Box w0 w b nx v S) (hb : Below w.heap.size w w') : Box w0 w' b nx v S :=
  ⟨h.own.below hb, h.base, (hb.block _ (lt_of_heap h.box)).trans h.box⟩
theorem Box.c0 {w0 w : World} {b : Nat} {nx : Int} {v : Value} {S : List Slt} (h : Box w0 w b nx v S) : w.cell? ⟨b, 0, none⟩ = some (.int .i64 nx) := by rw [cell_row h.box]; rfl
theorem Box.c1 {w0 w : World} {b : Nat} {nx : Int} {v : Value} {S : List Slt} (h : Box w0 w b nx v S) : w.cell? ⟨b, 1, none⟩ = some v := by rw [cell_row h.box]; rfl
theorem Box.fz {w0 w : World} {b : Nat} {nx : Int} {v : Value} {S : List Slt} (h : Box w0 w b nx v S) (k : Nat) : w.frozen? ⟨b, k, none⟩ = false := frozen_row h.box
theorem Box.bw {w0 w : World} {b : Nat} {nx : Int} {v : Value} {S : List Slt} (h : Box w0 w b nx v S) : Below w0.heap.size w0 w := h.own.1
theorem Box.new {w0 w : World} {nx : Int} {v : Value} {S : List Slt} (h : SlotsOwn w0 w v S) : Box w0 (w.alloc (.cells #[.int .i64 nx, v] 56)) w.heap.size nx v S :=
  ⟨h.below ((Below.refl _ _).alloc (Nat.le_refl _) _), h.1.size, heap_alloc_new w _⟩
theorem SlotsOwn.stay {w0 w w' : World} {b : Nat} {C : Array Value} {fr : Nat × Nat} {v : Value} {S : List Slt} (h : SlotsOwn w0 w v S) (hb : w.heap[b]? = some (.cells C 56 fr)) (h0 : w0.heap.size ≤ b) (ho : Off [b] w w') : SlotsOwn w0 w' v S := by
  obtain ⟨hb0, R, h1, h2⟩ := h
  refine ⟨hb0.trans (ho.below hb0.size (by simp; exact h0)), R, owns_off h1 ho (fun k hk => ?_), h2⟩
  simp at hk
  subst hk
  exact owns_ne h1 hb (by decide)
theorem Box.next {w0 w : World} {b : Nat} {nx : Int} {v : Value} {S : List Slt} (h : Box w0 w b nx v S) (n : Int) : Box w0 (w.setCell ⟨b, 0, none⟩ (.int .i64 n)) b n v S :=
  ⟨h.own.stay h.box h.base ((Off.refl _ _).setCell _ _ (.inl (by simp))), h.base, heap_set_same _ h.box⟩
theorem Box.put {w0 w : World} {b : Nat} {nx : Int} {v v' : Value} {S' : List Slt} (h0 : w0.heap.size ≤ b) (hbox : w.heap[b]? = some (.cells #[.int .i64 nx, v] 56 (0, 0))) (h' : SlotsOwn w0 w v' S') : Box w0 (w.setCell ⟨b, 1, none⟩ v') b nx v' S' :=
  ⟨h'.stay hbox h0 ((Off.refl _ _).setCell _ _ (.inl (by simp))), h0, heap_set_same _ hbox⟩
/-- A record stored, the box beside it. -/
theorem Box.set {w0 w : World} {b : Nat} {nx : Int} {v : Value} {S : List Slt} (h : Box w0 w b nx v S) (i : Nat) (hi : i < S.length) (bb : Bool) (dv : Value) (s : Slt) (hd : RecIs w0 (bb, dv) s) :
    ∃ G cap w', v = .slice (some ⟨G, 0, none⟩) S.length cap ∧ (Instr.storeAt 61 (.pointer (some ⟨G, i * 2, none⟩)) (.agg #[.bool bb, dv])).run Try.prog w = .ok () w' ∧ Box w0 w' b nx v (S.set i s) := by
  obtain ⟨G, cap, w', h1, h2, ⟨C, hC⟩, h3, h4, h5, h6⟩ := h.own.set i hi bb dv s hd
  refine ⟨G, cap, w', h1, h3, h4, h.base, (h5.block _ (lt_of_heap h.box) (fun hm => ?_)).trans h.box⟩
  simp at hm
  subst hm
  rw [h.box] at hC
  simp at hC
def setNextOf (bs : List UInt8) (n : Int) : List UInt8 := match dec bs with | none => bs | some g => if 0 ≤ n ∧ n ≤ 4294967295 then Pg.enc ⟨n.toNat, g.sl⟩ else bs
set_option maxHeartbeats 1000000 in
theorem setNext_any {w : World} {v : Value} {bs : List UInt8} (h : Sl w v bs) (n : Int) (hl : bs.length ≤ 140737488355328) : Calls Try.prog 10 #[v, .int .i64 n] w fun e w' => ∃ v', e = .returned v' ∧ Sl w' v' (setNextOf bs n) ∧ Below w.heap.size w w' := by
  have HCL : Hid (∀ W, Below w.heap.size w W → Calls Try.prog 30 #[v] W fun e w' => ∃ v', e = .returned v' ∧ Sl w' v' bs ∧ Below W.heap.size W w') := fun W hb => clone_any (h.belowW hb) hl
  cases hd : dec bs with
  | none =>
    have HR := hide (read_none h hd)
    have HN : Hid (setNextOf bs n = bs) := by unfold setNextOf; rw [Hid, hd]
    rw [HN.out]
    clear h
    go_enter Try.func10, Try.ntmps10
    go_wp2_with (first | (go_at_call 27; refine HR.out.mono ?_; rintro e W1 ⟨rfl, hb⟩; have hb2 := hide (hb.alloc hb.size (.cells #[.int .i64 0, .slice none 0 0] 56))) | (go_at_call 30; refine (HCL.out _ hb2.out).mono ?_; rintro e W3 ⟨v', rfl, hs3, hb3⟩))
    go_ret
    exact ⟨_, rfl, hs3, hb2.out.trans (hb3.mono hb2.out.size)⟩
  | some g =>
    have HR := hide (read_some h hd)
    have hgood := (enc_dec hd).1
    by_cases hn : 0 ≤ n ∧ n ≤ 4294967295
    · obtain ⟨k, rfl⟩ : ∃ k : Nat, n = (k : Int) := ⟨n.toNat, by omega⟩
      have HN : Hid (setNextOf bs k = Pg.enc ⟨k, g.sl⟩) := by unfold setNextOf; rw [Hid, hd]; simp only [if_pos hn, Int.toNat_natCast]
      rw [HN.out]
      have HBY : Hid (∀ W b ao c, Box w W b (k : Int) (.slice ao g.sl.length c) g.sl → Calls Try.prog 26 #[.agg #[.int .i64 (k : Int), .slice ao g.sl.length c]] W fun e w' => ∃ q, e = .returned (.slice (some ⟨q, 0, none⟩) 504 504) ∧ Sl w' (.slice (some ⟨q, 0, none⟩) 504 504) (Pg.enc ⟨k, g.sl⟩) ∧ Below W.heap.size W w') := fun W b ao c hb => bytes_sl (g := ⟨k, g.sl⟩) hb.own.at (show k < _ by omega) hgood.size
      clear h hd hgood HN HCL
      go_enter Try.func10, Try.ntmps10
      go_wp2_with fail
      refine HR.out.mono ?_
      rintro e W1 ⟨ao, c, rfl, ho⟩
      have HX := hide (Box.new (nx := (k : Int)) ho)
      clear ho HR
      go_wp2_with (go_at_call 26; refine (HBY.out _ _ _ _ HX.out).mono ?_; rintro e W3 ⟨q, rfl, hs3, hb3⟩)
      go_ret
      exact ⟨_, rfl, hs3, HX.out.bw.trans (hb3.mono HX.out.bw.size)⟩
    · have HN : Hid (setNextOf bs n = bs) := by unfold setNextOf; rw [Hid, hd]; simp only [if_neg hn]
      rw [HN.out]
      clear h hd hgood HN
      by_cases h0 : n < 0
      · go_enter Try.func10, Try.ntmps10
        go_wp2_with (first | (go_at_call 27; refine HR.out.mono ?_; rintro e W1 ⟨ao, c, rfl, ho⟩; have HX := hide (Box.new (nx := (g.next : Int)) ho)) | (go_at_call 30; refine (HCL.out _ HX.out.bw).mono ?_; rintro e W3 ⟨v', rfl, hs3, hb3⟩))
        go_ret
        exact ⟨_, rfl, hs3, HX.out.bw.trans (hb3.mono HX.out.bw.size)⟩
      · have h1 : 4294967295 < n := by omega
        go_enter Try.func10, Try.ntmps10
        go_wp2_with (first | (go_at_call 27; refine HR.out.mono ?_; rintro e W1 ⟨ao, c, rfl, ho⟩; have HX := hide (Box.new (nx := (g.next : Int)) ho)) | (go_at_call 30; refine (HCL.out _ HX.out.bw).mono ?_; rintro e W3 ⟨v', rfl, hs3, hb3⟩))
        go_ret
        exact ⟨_, rfl, hs3, HX.out.bw.trans (hb3.mono HX.out.bw.size)⟩
/-! ### Put -/
def putOf (bs d : List UInt8) : Int × Option (Nat × List UInt8) := match dec bs with
  | none => (63, none)
  | some g => if 480 < d.length then (1, none) else if 504 < tsize (g.putS d) then (60, none) else (0, some (g.least, (g.put d).enc))
def PutEnd (w : World) (r : Int × Option (Nat × List UInt8)) (e : Ending) (w' : World) : Prop :=
  Below w.heap.size w w' ∧ match r.2 with
  | none => e = .returned (.tuple #[.int .i64 0, .slice none 0 0, .int .i64 r.1])
  | some (k, X) => ∃ v, e = .returned (.tuple #[.int .i64 (k : Int), v, .int .i64 0]) ∧ Sl w' v X
theorem buildOne (w : World) : (Instr.buildSlice 54 1 #[(0, .agg #[.bool false, .slice none 0 0])]).run Try.prog w = .ok (.slice (some ⟨w.heap.size, 0, none⟩) 1 1) (w.alloc (.cells #[.bool false, .slice none 0 0] 61)) := by
  kernel_rfl
theorem SlotsOwn.push {w0 w w' : World} {v v' : Value} {S : List Slt} {R : List (Bool × Value)} (h : SlotsOwn w0 w v S) (hr : Recs w0 R S) (h1 : w'.ownsRow w0.heap.size 61 2 v' (S.length + 1) (recCells R ++ [.bool false, .slice none 0 0])) (hb : Below w0.heap.size w0 w') : SlotsOwn w0 w' v' (S ++ [none]) := by
  refine ⟨hb, R ++ [(false, .slice none 0 0)], ?_, hr.snoc _ none ⟨rfl, Sl.nil w0⟩⟩
  rw [List.length_append, List.length_singleton, recCells_append]
  exact h1
theorem Box.push {w0 w w' : World} {b : Nat} {nx : Int} {v v' : Value} {S : List Slt} {R : List (Bool × Value)} (h : Box w0 w b nx v S) (hr : Recs w0 R S) (hown : w.ownsRow w0.heap.size 61 2 v S.length (recCells R)) (hg : w.grownBy w' v.ownBlock) (ho : w'.ownsRow w0.heap.size 61 2 v' (S.length + 1) (recCells R ++ [.bool false, .slice none 0 0])) :
    w'.heap[b]? = some (.cells #[.int .i64 nx, v] 56 (0, 0)) ∧ SlotsOwn w0 w' v' (S ++ [none]) := by
  have hOff : Off (match v.ownBlock with | some k => [k] | none => []) w w' := (Off.refl _ _).grown hg (fun k hk => .inl (by rw [hk]; simp))
  have hne : v.ownBlock ≠ some b := owns_ne hown h.box (by decide)
  refine ⟨(hg.block b (lt_of_heap h.box) (fun e => hne e.symm)).trans h.box, h.own.push hr ho (h.bw.trans (hOff.below h.bw.size (fun k hk => ?_)))⟩
  cases hv : v.ownBlock with
  | none => rw [hv] at hk; simp at hk
  | some j =>
    rw [hv] at hk
    simp at hk
    subst hk
    exact (hown.lt k hv).1
set_option maxHeartbeats 1000000 in
theorem put_bad {w : World} {v dv : Value} {bs d : List UInt8} (h : Sl w v bs) (hd : dec bs = none) : Calls Try.prog 9 #[v, dv] w fun e w' => PutEnd w (63, none) e w' := by
  have HR := hide (read_none h hd)
  clear h
  go_enter Try.func9, Try.ntmps9
  go_wp2_with (go_at_call 27; refine HR.out.mono ?_; rintro e W1 ⟨rfl, hb⟩)
  go_ret3
  exact ⟨hb.alloc hb.size _, rfl⟩
set_option maxHeartbeats 1000000 in
theorem put_long {w : World} {v dv : Value} {bs d : List UInt8} {g : Pg} (h : Sl w v bs) (hdv : Sl w dv d) (hd : dec bs = some g) (hl : 480 < d.length) : Calls Try.prog 9 #[v, dv] w fun e w' => PutEnd w (1, none) e w' := by
  have HR := hide (read_some h hd)
  obtain ⟨da, dc, rfl, dc1, dc2⟩ := hdv.len
  clear h hdv
  simp only [maxLen] at dc2
  have hl' : (480 : Int) < (d.length : Int) := by omega
  generalize d.length = D at *
  go_enter Try.func9, Try.ntmps9
  go_wp2_with (go_at_call 27; refine HR.out.mono ?_; rintro e W1 ⟨ao, c, rfl, ho⟩; have HX := hide (Box.new (nx := (g.next : Int)) ho))
  go_ret3
  exact ⟨HX.out.bw, rfl⟩
set_option maxHeartbeats 2000000 in
set_option maxRecDepth 100000 in
theorem put_gooA {w : World} {v dv : Value} {bs d : List UInt8} {g : Pg} (h : Sl w v bs) (hdv : Sl w dv d) (hd : dec bs = some g) (hl : d.length ≤ 480) (hts : tsize (g.putS d) ≤ 504) (hle : g.least = g.sl.length) : Calls Try.prog 9 #[v, dv] w fun e w' => PutEnd w (0, some (g.least, (g.put d).enc)) e w' := by
  have HR := hide (read_some h hd)
  have hgood := (enc_dec hd).1
  have hgs : g.size = 6 + 4 * g.sl.length + blen g.sl := rfl
  have hgsz := hgood.size
  have hgn := hgood.next
  have HLS : Hid (∀ W b ao c, Box w W b (g.next : Int) (.slice ao g.sl.length c) g.sl → Calls Try.prog 28 #[.agg #[.int .i64 (g.next : Int), .slice ao g.sl.length c]] W fun e w' => e = .returned (.int .i64 (g.least : Nat)) ∧ Below W.heap.size W w') := fun W b ao c hb => least_any hb.own.at g.next
  have htl : tsize (g.putS d) ≤ 100000 := by
    unfold Pg.putS
    split
    · simp only [tsize, List.length_append, List.length_singleton, blen_append, blen, slen, Option.getD_some]; omega
    · have := least_le g
      have := blen_set g.sl g.least (some d) (by omega)
      simp only [tsize, List.length_set, slen, Option.getD_some] at this ⊢; omega
  have HRM : Hid (∀ W b ao c n, Box w W b (g.next : Int) (.slice ao n c) (g.putS d) → Calls Try.prog 29 #[.agg #[.int .i64 (g.next : Int), .slice ao n c]] W fun e w' => e = .returned (.int .i64 (504 - (tsize (g.putS d) : Int))) ∧ Below W.heap.size W w') := fun W b ao c n hb => room_any hb.own.at g.next htl
  have HBY : Hid (∀ W b ao c n, Box w W b (g.next : Int) (.slice ao n c) (g.putS d) → Calls Try.prog 26 #[.agg #[.int .i64 (g.next : Int), .slice ao n c]] W fun e w' => ∃ q, e = .returned (.slice (some ⟨q, 0, none⟩) 504 504) ∧ Sl w' (.slice (some ⟨q, 0, none⟩) 504 504) (g.put d).enc ∧ Below W.heap.size W w') := fun W b ao c n hb => bytes_sl (g := g.put d) hb.own.at hgn hts
  have HDV := hide hdv
  obtain ⟨da, dc, rfl, dc1, dc2⟩ := hdv.len
  simp only [maxLen] at dc2
  have hl' : ¬ (480 : Int) < (d.length : Int) := by omega
  have HPS : Hid (g.putS d = (g.sl ++ [none]).set g.sl.length (some d)) := by unfold Pg.putS; rw [Hid, if_pos hle, List.set_append_right _ _ (Nat.le_refl _)]; simp
  have hlsl : g.sl.length ≤ 200 := by omega
  have hrm : ¬ (504 - (tsize (g.putS d) : Int) < 0) := by omega
  clear h hdv hd hgood htl hgs hgsz
  generalize d.length = D at *
  go_enter Try.func9, Try.ntmps9
  go_wp2_with fail
  refine HR.out.mono ?_
  rintro e W1 ⟨ao, c, rfl, ho⟩
  have HX := hide (Box.new (nx := (g.next : Int)) ho)
  clear ho HR
  go_wp2_with fail
  refine (HLS.out _ _ _ _ HX.out).mono ?_
  rintro e W2 ⟨rfl, hb2⟩
  have HX2 := hide (HX.out.below hb2)
  clear hb2 HX HLS
  generalize W1.heap.size = b at *
  have x0 := HX2.out.c0
  have x1 := HX2.out.c1
  have hne : (g.least : Int) = (g.sl.length : Int) := by rw [hle]
  obtain ⟨_, R, hown, hrecs⟩ := HX2.out.own
  have hbo := buildOne W2
  have hrow : Row (W2.alloc (.cells #[.bool false, .slice none 0 0] 61)) (.slice (some ⟨W2.heap.size, 0, none⟩) 1 1) 1 [.bool false, .slice none 0 0] := ⟨_, 1, rfl, Nat.le_refl _, by simp only [maxLen]; omega, fun _ => ⟨W2.heap.size, 0, rfl, fun j u hu => by
    rw [Nat.zero_add, cell_row (heap_alloc_new W2 _)]; simpa using hu⟩⟩
  have hown2 : (W2.alloc (.cells #[.bool false, .slice none 0 0] 61)).ownsRow w.heap.size 61 2 (.slice ao g.sl.length c) g.sl.length (recCells R) := owns_below hown ((Below.refl _ _).alloc (Nat.le_refl _) _) (Nat.le_refl _)
  have HOWN := hide hown2
  have HROW := hide hrow
  have HREC := hide hrecs
  have HXA := hide (HX2.out.below ((Below.refl W2.heap.size W2).alloc (Nat.le_refl _) (.cells #[.bool false, .slice none 0 0] 61)))
  have HPUSH : Hid (∀ v' W3, W3.ownsRow w.heap.size 61 2 v' (g.sl.length + 1) (recCells R ++ [.bool false, .slice none 0 0]) → (W2.alloc (.cells #[.bool false, .slice none 0 0] 61)).grownBy W3 (Value.slice ao g.sl.length c).ownBlock → W3.heap[b]? = some (.cells #[.int .i64 (g.next : Int), .slice ao g.sl.length c] 56 (0, 0)) ∧ SlotsOwn w W3 v' (g.sl ++ [none])) := fun v' W3 ho hg => HXA.out.push HREC.out HOWN.out hg ho
  clear hown hrecs hrow hown2
  go_upto_region 9 with (refine wpList_append_row rfl (.tmp 28) (.tmp 30) 54 rfl w.heap.size 61 (.agg #[.bool false, .slice none 0 0]) 2 32 Try.underlying54 Try.info61 rfl (by omega) _ _ _ _ 1 _ rfl rfl HOWN.out HROW.out rfl (by simp [Value.oneCell']) (by omega) (by omega) HXA.out.bw.size ?_; intro v3 W3 ho3 hg3; obtain ⟨hbox3, hso3⟩ := HPUSH.out v3 W3 ho3 hg3; obtain ⟨a3, c3, hv3⟩ := owns_len ho3; subst hv3; have y1 : W3.cell? ⟨b, 1, none⟩ = some (.slice ao g.sl.length c) := (by rw [cell_row hbox3]; rfl); have z1 : W3.frozen? ⟨b, 1, none⟩ = false := frozen_row hbox3; clear ho3 hg3)
  have HX3 := hide (Box.put HXA.out.base hbox3 hso3)
  clear hbox3 hso3 y1 z1 HPUSH HOWN HROW HREC HXA hbo x0 x1 HX2
  generalize W3.setCell ⟨b, 1, none⟩ (.slice a3 (g.sl.length + 1) c3) = W4 at *
  obtain ⟨G, cap, W5, hv, hst, hX5⟩ := HX3.out.set g.sl.length (by simp) true _ (some d) ⟨rfl, HDV.out⟩
  injection hv with hv1 hv2 hv3
  subst hv1 hv3
  clear hv2
  rw [← HPS.out] at hX5
  have x1 := HX3.out.c1
  have y0 := hX5.c0
  have y1 := hX5.c1
  have HX5 := hide hX5
  clear hX5
  generalize tsize (g.putS d) = T at *
  go_wp2_with (first | (refine wpList_store_in rfl 61 (.tmp 38) (.tmp 37) rfl rfl G (g.sl.length * 2) [.bool true, .slice da D dc] W5 rfl rfl hst ?_) | (go_at_call 29; refine (HRM.out _ _ _ _ _ HX5.out).mono ?_; rintro e W6 ⟨rfl, hb6⟩; have HX6 := hide (HX5.out.below hb6); have u0 := HX6.out.c0; have u1 := HX6.out.c1) | (go_at_call 26; refine (HBY.out _ _ _ _ _ HX6.out).mono ?_; rintro e W7 ⟨q, rfl, hs7, hb7⟩))
  go_ret3
  rw [hle]
  exact ⟨HX6.out.bw.trans (hb7.mono HX6.out.bw.size), _, rfl, hs7⟩
set_option maxHeartbeats 2000000 in
set_option maxRecDepth 100000 in
theorem put_gooB {w : World} {v dv : Value} {bs d : List UInt8} {g : Pg} (h : Sl w v bs) (hdv : Sl w dv d) (hd : dec bs = some g) (hl : d.length ≤ 480) (hts : tsize (g.putS d) ≤ 504) (hle : g.least ≠ g.sl.length) : Calls Try.prog 9 #[v, dv] w fun e w' => PutEnd w (0, some (g.least, (g.put d).enc)) e w' := by
  have HR := hide (read_some h hd)
  have hgood := (enc_dec hd).1
  have hgs : g.size = 6 + 4 * g.sl.length + blen g.sl := rfl
  have hgsz := hgood.size
  have hgn := hgood.next
  have HLS : Hid (∀ W b ao c, Box w W b (g.next : Int) (.slice ao g.sl.length c) g.sl → Calls Try.prog 28 #[.agg #[.int .i64 (g.next : Int), .slice ao g.sl.length c]] W fun e w' => e = .returned (.int .i64 (g.least : Nat)) ∧ Below W.heap.size W w') := fun W b ao c hb => least_any hb.own.at g.next
  have htl : tsize (g.putS d) ≤ 100000 := by
    unfold Pg.putS
    split
    · simp only [tsize, List.length_append, List.length_singleton, blen_append, blen, slen, Option.getD_some]; omega
    · have := least_le g
      have := blen_set g.sl g.least (some d) (by omega)
      simp only [tsize, List.length_set, slen, Option.getD_some] at this ⊢; omega
  have HRM : Hid (∀ W b ao c n, Box w W b (g.next : Int) (.slice ao n c) (g.putS d) → Calls Try.prog 29 #[.agg #[.int .i64 (g.next : Int), .slice ao n c]] W fun e w' => e = .returned (.int .i64 (504 - (tsize (g.putS d) : Int))) ∧ Below W.heap.size W w') := fun W b ao c n hb => room_any hb.own.at g.next htl
  have HBY : Hid (∀ W b ao c n, Box w W b (g.next : Int) (.slice ao n c) (g.putS d) → Calls Try.prog 26 #[.agg #[.int .i64 (g.next : Int), .slice ao n c]] W fun e w' => ∃ q, e = .returned (.slice (some ⟨q, 0, none⟩) 504 504) ∧ Sl w' (.slice (some ⟨q, 0, none⟩) 504 504) (g.put d).enc ∧ Below W.heap.size W w') := fun W b ao c n hb => bytes_sl (g := g.put d) hb.own.at hgn hts
  have HDV := hide hdv
  obtain ⟨da, dc, rfl, dc1, dc2⟩ := hdv.len
  simp only [maxLen] at dc2
  have hl' : ¬ (480 : Int) < (d.length : Int) := by omega
  have HPS : Hid (g.putS d = g.sl.set g.least (some d)) := by unfold Pg.putS; rw [Hid, if_neg hle]
  have hlsl : g.sl.length ≤ 200 := by omega
  have hrm : ¬ (504 - (tsize (g.putS d) : Int) < 0) := by omega
  clear h hdv hd hgood htl hgs hgsz
  generalize d.length = D at *
  go_enter Try.func9, Try.ntmps9
  go_wp2_with fail
  refine HR.out.mono ?_
  rintro e W1 ⟨ao, c, rfl, ho⟩
  have HX := hide (Box.new (nx := (g.next : Int)) ho)
  clear ho HR
  go_wp2_with fail
  refine (HLS.out _ _ _ _ HX.out).mono ?_
  rintro e W2 ⟨rfl, hb2⟩
  have HX2 := hide (HX.out.below hb2)
  clear hb2 HX HLS
  generalize W1.heap.size = b at *
  have x0 := HX2.out.c0
  have x1 := HX2.out.c1
  have hltl : g.least < g.sl.length := by have := least_le g; omega
  have hne : ¬ ((g.least : Int) = (g.sl.length : Int)) := by omega
  obtain ⟨G, cap, W5, hv, hst, hX5⟩ := HX2.out.set g.least hltl true _ (some d) ⟨rfl, HDV.out⟩
  injection hv with hv1 hv2 hv3
  subst hv1 hv3
  clear hv2
  rw [← HPS.out] at hX5
  clear hle
  have y0 := hX5.c0
  have y1 := hX5.c1
  have HX5 := hide hX5
  clear hX5
  generalize tsize (g.putS d) = T at *
  go_wp2_with (first | (refine wpList_store_in rfl 61 (.tmp 38) (.tmp 37) rfl rfl G (g.least * 2) [.bool true, .slice da D dc] W5 rfl rfl hst ?_) | (go_at_call 29; refine (HRM.out _ _ _ _ _ HX5.out).mono ?_; rintro e W6 ⟨rfl, hb6⟩; have HX6 := hide (HX5.out.below hb6); have u0 := HX6.out.c0; have u1 := HX6.out.c1) | (go_at_call 26; refine (HBY.out _ _ _ _ _ HX6.out).mono ?_; rintro e W7 ⟨q, rfl, hs7, hb7⟩))
  go_ret3
  exact ⟨HX6.out.bw.trans (hb7.mono HX6.out.bw.size), _, rfl, hs7⟩
set_option maxHeartbeats 2000000 in
set_option maxRecDepth 100000 in
theorem put_gooC {w : World} {v dv : Value} {bs d : List UInt8} {g : Pg} (h : Sl w v bs) (hdv : Sl w dv d) (hd : dec bs = some g) (hl : d.length ≤ 480) (hts : 504 < tsize (g.putS d)) (hle : g.least = g.sl.length) : Calls Try.prog 9 #[v, dv] w fun e w' => PutEnd w (60, none) e w' := by
  have HR := hide (read_some h hd)
  have hgood := (enc_dec hd).1
  have hgs : g.size = 6 + 4 * g.sl.length + blen g.sl := rfl
  have hgsz := hgood.size
  have hgn := hgood.next
  have HLS : Hid (∀ W b ao c, Box w W b (g.next : Int) (.slice ao g.sl.length c) g.sl → Calls Try.prog 28 #[.agg #[.int .i64 (g.next : Int), .slice ao g.sl.length c]] W fun e w' => e = .returned (.int .i64 (g.least : Nat)) ∧ Below W.heap.size W w') := fun W b ao c hb => least_any hb.own.at g.next
  have htl : tsize (g.putS d) ≤ 100000 := by
    unfold Pg.putS
    split
    · simp only [tsize, List.length_append, List.length_singleton, blen_append, blen, slen, Option.getD_some]; omega
    · have := least_le g
      have := blen_set g.sl g.least (some d) (by omega)
      simp only [tsize, List.length_set, slen, Option.getD_some] at this ⊢; omega
  have HRM : Hid (∀ W b ao c n, Box w W b (g.next : Int) (.slice ao n c) (g.putS d) → Calls Try.prog 29 #[.agg #[.int .i64 (g.next : Int), .slice ao n c]] W fun e w' => e = .returned (.int .i64 (504 - (tsize (g.putS d) : Int))) ∧ Below W.heap.size W w') := fun W b ao c n hb => room_any hb.own.at g.next htl
  have HDV := hide hdv
  obtain ⟨da, dc, rfl, dc1, dc2⟩ := hdv.len
  simp only [maxLen] at dc2
  have hl' : ¬ (480 : Int) < (d.length : Int) := by omega
  have HPS : Hid (g.putS d = (g.sl ++ [none]).set g.sl.length (some d)) := by unfold Pg.putS; rw [Hid, if_pos hle, List.set_append_right _ _ (Nat.le_refl _)]; simp
  have hlsl : g.sl.length ≤ 200 := by omega
  have hrm : 504 - (tsize (g.putS d) : Int) < 0 := by omega
  clear h hdv hd hgood htl hgs hgsz
  generalize d.length = D at *
  go_enter Try.func9, Try.ntmps9
  go_wp2_with fail
  refine HR.out.mono ?_
  rintro e W1 ⟨ao, c, rfl, ho⟩
  have HX := hide (Box.new (nx := (g.next : Int)) ho)
  clear ho HR
  go_wp2_with fail
  refine (HLS.out _ _ _ _ HX.out).mono ?_
  rintro e W2 ⟨rfl, hb2⟩
  have HX2 := hide (HX.out.below hb2)
  clear hb2 HX HLS
  generalize W1.heap.size = b at *
  have x0 := HX2.out.c0
  have x1 := HX2.out.c1
  have hne : (g.least : Int) = (g.sl.length : Int) := by rw [hle]
  obtain ⟨_, R, hown, hrecs⟩ := HX2.out.own
  have hbo := buildOne W2
  have hrow : Row (W2.alloc (.cells #[.bool false, .slice none 0 0] 61)) (.slice (some ⟨W2.heap.size, 0, none⟩) 1 1) 1 [.bool false, .slice none 0 0] := ⟨_, 1, rfl, Nat.le_refl _, by simp only [maxLen]; omega, fun _ => ⟨W2.heap.size, 0, rfl, fun j u hu => by
    rw [Nat.zero_add, cell_row (heap_alloc_new W2 _)]; simpa using hu⟩⟩
  have hown2 : (W2.alloc (.cells #[.bool false, .slice none 0 0] 61)).ownsRow w.heap.size 61 2 (.slice ao g.sl.length c) g.sl.length (recCells R) := owns_below hown ((Below.refl _ _).alloc (Nat.le_refl _) _) (Nat.le_refl _)
  have HOWN := hide hown2
  have HROW := hide hrow
  have HREC := hide hrecs
  have HXA := hide (HX2.out.below ((Below.refl W2.heap.size W2).alloc (Nat.le_refl _) (.cells #[.bool false, .slice none 0 0] 61)))
  have HPUSH : Hid (∀ v' W3, W3.ownsRow w.heap.size 61 2 v' (g.sl.length + 1) (recCells R ++ [.bool false, .slice none 0 0]) → (W2.alloc (.cells #[.bool false, .slice none 0 0] 61)).grownBy W3 (Value.slice ao g.sl.length c).ownBlock → W3.heap[b]? = some (.cells #[.int .i64 (g.next : Int), .slice ao g.sl.length c] 56 (0, 0)) ∧ SlotsOwn w W3 v' (g.sl ++ [none])) := fun v' W3 ho hg => HXA.out.push HREC.out HOWN.out hg ho
  clear hown hrecs hrow hown2
  go_upto_region 9 with (refine wpList_append_row rfl (.tmp 28) (.tmp 30) 54 rfl w.heap.size 61 (.agg #[.bool false, .slice none 0 0]) 2 32 Try.underlying54 Try.info61 rfl (by omega) _ _ _ _ 1 _ rfl rfl HOWN.out HROW.out rfl (by simp [Value.oneCell']) (by omega) (by omega) HXA.out.bw.size ?_; intro v3 W3 ho3 hg3; obtain ⟨hbox3, hso3⟩ := HPUSH.out v3 W3 ho3 hg3; obtain ⟨a3, c3, hv3⟩ := owns_len ho3; subst hv3; have y1 : W3.cell? ⟨b, 1, none⟩ = some (.slice ao g.sl.length c) := (by rw [cell_row hbox3]; rfl); have z1 : W3.frozen? ⟨b, 1, none⟩ = false := frozen_row hbox3; clear ho3 hg3)
  have HX3 := hide (Box.put HXA.out.base hbox3 hso3)
  clear hbox3 hso3 y1 z1 HPUSH HOWN HROW HREC HXA hbo x0 x1 HX2
  generalize W3.setCell ⟨b, 1, none⟩ (.slice a3 (g.sl.length + 1) c3) = W4 at *
  obtain ⟨G, cap, W5, hv, hst, hX5⟩ := HX3.out.set g.sl.length (by simp) true _ (some d) ⟨rfl, HDV.out⟩
  injection hv with hv1 hv2 hv3
  subst hv1 hv3
  clear hv2
  rw [← HPS.out] at hX5
  have x1 := HX3.out.c1
  have y0 := hX5.c0
  have y1 := hX5.c1
  have HX5 := hide hX5
  clear hX5
  generalize tsize (g.putS d) = T at *
  go_wp2_with (first | (refine wpList_store_in rfl 61 (.tmp 38) (.tmp 37) rfl rfl G (g.sl.length * 2) [.bool true, .slice da D dc] W5 rfl rfl hst ?_) | (go_at_call 29; refine (HRM.out _ _ _ _ _ HX5.out).mono ?_; rintro e W6 ⟨rfl, hb6⟩; have HX6 := hide (HX5.out.below hb6); have u0 := HX6.out.c0; have u1 := HX6.out.c1))
  go_ret3
  exact ⟨HX6.out.bw, rfl⟩
set_option maxHeartbeats 2000000 in
set_option maxRecDepth 100000 in
theorem put_gooD {w : World} {v dv : Value} {bs d : List UInt8} {g : Pg} (h : Sl w v bs) (hdv : Sl w dv d) (hd : dec bs = some g) (hl : d.length ≤ 480) (hts : 504 < tsize (g.putS d)) (hle : g.least ≠ g.sl.length) : Calls Try.prog 9 #[v, dv] w fun e w' => PutEnd w (60, none) e w' := by
  have HR := hide (read_some h hd)
  have hgood := (enc_dec hd).1
  have hgs : g.size = 6 + 4 * g.sl.length + blen g.sl := rfl
  have hgsz := hgood.size
  have hgn := hgood.next
  have HLS : Hid (∀ W b ao c, Box w W b (g.next : Int) (.slice ao g.sl.length c) g.sl → Calls Try.prog 28 #[.agg #[.int .i64 (g.next : Int), .slice ao g.sl.length c]] W fun e w' => e = .returned (.int .i64 (g.least : Nat)) ∧ Below W.heap.size W w') := fun W b ao c hb => least_any hb.own.at g.next
  have htl : tsize (g.putS d) ≤ 100000 := by
    unfold Pg.putS
    split
    · simp only [tsize, List.length_append, List.length_singleton, blen_append, blen, slen, Option.getD_some]; omega
    · have := least_le g
      have := blen_set g.sl g.least (some d) (by omega)
      simp only [tsize, List.length_set, slen, Option.getD_some] at this ⊢; omega
  have HRM : Hid (∀ W b ao c n, Box w W b (g.next : Int) (.slice ao n c) (g.putS d) → Calls Try.prog 29 #[.agg #[.int .i64 (g.next : Int), .slice ao n c]] W fun e w' => e = .returned (.int .i64 (504 - (tsize (g.putS d) : Int))) ∧ Below W.heap.size W w') := fun W b ao c n hb => room_any hb.own.at g.next htl
  have HDV := hide hdv
  obtain ⟨da, dc, rfl, dc1, dc2⟩ := hdv.len
  simp only [maxLen] at dc2
  have hl' : ¬ (480 : Int) < (d.length : Int) := by omega
  have HPS : Hid (g.putS d = g.sl.set g.least (some d)) := by unfold Pg.putS; rw [Hid, if_neg hle]
  have hlsl : g.sl.length ≤ 200 := by omega
  have hrm : 504 - (tsize (g.putS d) : Int) < 0 := by omega
  clear h hdv hd hgood htl hgs hgsz
  generalize d.length = D at *
  go_enter Try.func9, Try.ntmps9
  go_wp2_with fail
  refine HR.out.mono ?_
  rintro e W1 ⟨ao, c, rfl, ho⟩
  have HX := hide (Box.new (nx := (g.next : Int)) ho)
  clear ho HR
  go_wp2_with fail
  refine (HLS.out _ _ _ _ HX.out).mono ?_
  rintro e W2 ⟨rfl, hb2⟩
  have HX2 := hide (HX.out.below hb2)
  clear hb2 HX HLS
  generalize W1.heap.size = b at *
  have x0 := HX2.out.c0
  have x1 := HX2.out.c1
  have hltl : g.least < g.sl.length := by have := least_le g; omega
  have hne : ¬ ((g.least : Int) = (g.sl.length : Int)) := by omega
  obtain ⟨G, cap, W5, hv, hst, hX5⟩ := HX2.out.set g.least hltl true _ (some d) ⟨rfl, HDV.out⟩
  injection hv with hv1 hv2 hv3
  subst hv1 hv3
  clear hv2
  rw [← HPS.out] at hX5
  clear hle
  have y0 := hX5.c0
  have y1 := hX5.c1
  have HX5 := hide hX5
  clear hX5
  generalize tsize (g.putS d) = T at *
  go_wp2_with (first | (refine wpList_store_in rfl 61 (.tmp 38) (.tmp 37) rfl rfl G (g.least * 2) [.bool true, .slice da D dc] W5 rfl rfl hst ?_) | (go_at_call 29; refine (HRM.out _ _ _ _ _ HX5.out).mono ?_; rintro e W6 ⟨rfl, hb6⟩; have HX6 := hide (HX5.out.below hb6); have u0 := HX6.out.c0; have u1 := HX6.out.c1))
  go_ret3
  exact ⟨HX6.out.bw, rfl⟩
theorem put_any {w : World} {v dv : Value} {bs d : List UInt8} (h : Sl w v bs) (hdv : Sl w dv d) : Calls Try.prog 9 #[v, dv] w fun e w' => PutEnd w (putOf bs d) e w' := by
  cases hd : dec bs with
  | none =>
    have : putOf bs d = (63, none) := by unfold putOf; rw [hd]
    rw [this]
    exact put_bad (d := d) h hd
  | some g =>
    by_cases h1 : 480 < d.length
    · have : putOf bs d = (1, none) := by unfold putOf; rw [hd]; simp only [if_pos h1]
      rw [this]
      exact put_long h hdv hd h1
    · by_cases h2 : 504 < tsize (g.putS d)
      · have : putOf bs d = (60, none) := by unfold putOf; rw [hd]; simp only [if_neg h1, if_pos h2]
        rw [this]
        by_cases h3 : g.least = g.sl.length
        · exact put_gooC h hdv hd (by omega) h2 h3
        · exact put_gooD h hdv hd (by omega) h2 h3
      · have : putOf bs d = (0, some (g.least, (g.put d).enc)) := by unfold putOf; rw [hd]; simp only [if_neg h1, if_neg h2]
        rw [this]
        by_cases h3 : g.least = g.sl.length
        · exact put_gooA h hdv hd (by omega) (by omega) h3
        · exact put_gooB h hdv hd (by omega) (by omega) h3
end Go.Proofs.Ytdddeneppciiiaa
