/- The document's answer: numbers, sizes, a page's bytes. -/
import Derived.Test.YtdddeneppciiiaaGood
namespace Go.Proofs.Ytdddeneppciiiaa
open Go.RowKit
set_option linter.unusedVariables false
set_option linter.unusedSimpArgs false

/-! ### Appends that part: the old row or a new one -/
theorem run_append_two (w : World) (base : Nat) (ty : TypeId) (v : Value) (n : Nat) (xs : List Value) (hown : w.ownsRow base 5 1 v n xs)
    (x : Value) (m : Nat) (news : List Value) (hx : Row w x m news) (hl : news.length = m) (h1 : ∀ u ∈ news, u.oneCell' = true)
    (hbytes : n + m ≤ 140737488355328) (hbase : base ≤ w.heap.size) :
    ∃ v' w', (Builtin.append_ #[23, 23] ty #[v, x]).run Try.prog w = .ok v' w' ∧ w'.ownsRow base 5 1 v' (n + m) (xs ++ news) ∧ w.grownBy w' v.ownBlock ∧ (∀ k, v'.ownBlock = some k → v.ownBlock = some k ∨ w.heap.size ≤ k) := by
  obtain ⟨i, hi, hz⟩ := Option.map_eq_some_iff.1 Try.info5
  simp only [Prod.mk.injEq] at hz
  obtain ⟨hz, hsize, hby⟩ := hz
  have hmax : n + m ≤ maxLen := by simp only [maxLen]; omega
  obtain ⟨v', w', hr, ho, hgr⟩ := run_append_row (P := Try.prog) w base 23 ty 5 (.int .u8 0) 1 1 Try.underlying23 Try.info5 rfl (by omega) v n xs hown x m news hx (by omega) h1 (by omega) (by omega) hbase
  refine ⟨v', w', hr, ho, hgr, ?_⟩
  rcases hown.2 with ⟨rfl, rfl⟩ | ⟨g, cap, cur, rfl, hbg, hg, hnc, hcm, hcs, htake⟩
  · obtain rfl : xs = [] := List.eq_nil_of_length_eq_zero (by simpa using hown.1)
    obtain ⟨v2, w2, hr2, ho2, _⟩ := run_append_row (P := Try.prog) w w.heap.size 23 ty 5 (.int .u8 0) 1 1 Try.underlying23 Try.info5 rfl (by omega) (.slice none 0 0) 0 [] (World.ownsRow_nil w _ 5 1) x m news hx (by omega) h1 (by omega) (by omega) (Nat.le_refl _)
    have e := hr.symm.trans hr2
    injection e with e1 e2
    subst e1
    exact fun k hk => .inr (ho2.lt k hk).1
  · obtain ⟨ao, c, rfl, c1, c2, hrr⟩ := hx
    cases ao with
    | none =>
      have hn : news = [] := by
        refine Classical.byContradiction fun hne => ?_
        obtain ⟨g, o, e, _⟩ := hrr hne
        cases e
      subst hn
      have hm : m = 0 := by simpa using hl.symm
      subst hm
      have hsrc : Src Try.prog i.size 23 (.slice none 0 c) 0 [] w := Src.ofNil w Try.underlying23 c
      have hr2 := run_append_room_src (P := Try.prog) w 23 23 ty 5 i Try.underlying23 hi g 0 n cap _ 0 [] hsrc (by omega) (fun j hj => by simp at hj) (fun j hj => by simp at hj)
      have e := hr.symm.trans hr2
      injection e with e1 e2
      subst e1
      exact fun k hk => .inl hk
    | some a =>
      have hnews : ∀ j u, news[j]? = some u → w.cell? (a.add j) = some u := fun j u hu => by
        obtain ⟨g, o, e, hrg⟩ := hrr (fun h0 => by rw [h0] at hu; simp at hu)
        injection e with e
        subst e
        rw [Addr.add_mid]
        exact hrg j u hu
      by_cases hroom : n + m ≤ cap
      · have hr2 := run_append_room (P := Try.prog) w 23 ty 5 i Try.underlying23 hi g n cap cur hg a m c news (by rw [hl, hsize]; omega) hnews h1 hroom (by rw [hl, hcs, hsize]; omega)
        have e := hr.symm.trans hr2
        injection e with e1 e2
        subst e1
        exact fun k hk => .inl hk
      · obtain ⟨v2, w2, hr2, ho2, _⟩ := run_append_arg_grows (P := Try.prog) w 23 ty 5 i (.int .u8 0) 1 1 Try.underlying23 hi hz hsize hby rfl (by omega) ⟨g, 0, none⟩ n cap xs hown.1 (hown.cells rfl) a m c news (by omega) hnews (by omega) hmax (by omega)
        have e := hr.symm.trans hr2
        injection e with e1 e2
        subst e1
        exact fun k hk => .inr (ho2.lt k hk).1
/-- Two rows of bytes that part. -/
structure Two (w0 w : World) (u v : Value) (A B : List UInt8) : Prop where
  below : Below w0.heap.size w0 w
  one : w.ownsRow w0.heap.size 5 1 u A.length (secCells A)
  two : w.ownsRow w0.heap.size 5 1 v B.length (secCells B)
  apart : ∀ k, u.ownBlock = some k → v.ownBlock ≠ some k
theorem Two.belowW {w0 w w' : World} {u v : Value} {A B : List UInt8} (h : Two w0 w u v A B) (hb : Below w.heap.size w w') : Two w0 w' u v A B :=
  ⟨h.below.trans (hb.mono h.below.size), owns_below h.one hb (Nat.le_refl _), owns_below h.two hb (Nat.le_refl _), h.apart⟩
theorem grown_below {w0 w w' : World} {u : Value} {n : Nat} {xs : List Value} (hb : Below w0.heap.size w0 w) (hu : w.ownsRow w0.heap.size 5 1 u n xs) (hg : w.grownBy w' u.ownBlock) : Below w0.heap.size w0 w' := by
  have hOff : Off (match u.ownBlock with | some k => [k] | none => []) w w' := (Off.refl _ _).grown hg (fun k hk => .inl (by rw [hk]; simp))
  refine hb.trans (hOff.below hb.size (fun k hk => ?_))
  cases hv : u.ownBlock with
  | none => rw [hv] at hk; simp at hk
  | some j =>
    rw [hv] at hk
    simp at hk
    subst hk
    exact (hu.lt k hv).1
theorem Two.grow {w0 w w' : World} {u v u' : Value} {A B C : List UInt8} (h : Two w0 w u v A B) (ho : w'.ownsRow w0.heap.size 5 1 u' (A.length + C.length) (secCells A ++ secCells C)) (hg : w.grownBy w' u.ownBlock) (hf : ∀ k, u'.ownBlock = some k → u.ownBlock = some k ∨ w.heap.size ≤ k) : Two w0 w' u' v (A ++ C) B := by
  refine ⟨grown_below h.below h.one hg, by rw [List.length_append, secCells_append]; exact ho, ?_, fun k hk => ?_⟩
  · refine h.two.kept hg ?_
    cases hv : v.ownBlock with
    | none => exact .inl rfl
    | some j => exact .inr (fun e => h.apart j e.symm hv)
  · rcases hf k hk with h1 | h1
    · exact h.apart k h1
    · intro h2
      have := (h.two.lt k h2).2
      omega
theorem Two.swap {w0 w : World} {u v : Value} {A B : List UInt8} (h : Two w0 w u v A B) : Two w0 w v u B A := ⟨h.below, h.two, h.one, fun k hk hn => h.apart k hn hk⟩
theorem grown_rec {w w' : World} {base rb n : Nat} {u : Value} {xs : List Value} {C : Array Value} {t : TypeId} {fr : Nat × Nat} (hu : w.ownsRow base 5 1 u n xs) (hg : w.grownBy w' u.ownBlock) (hr : w.heap[rb]? = some (.cells C t fr)) (ht : t ≠ 5) : w'.heap[rb]? = some (.cells C t fr) :=
  (hg.block rb (lt_of_heap hr) (fun e => owns_ne hu hr ht e.symm)).trans hr
/-- An append as one operation. -/
theorem wpList_append_two {ops : Array Oper} {rest : List Oper} {o : Oper} {a : Act} {w : World} {Q : Exit → Act → World → Prop}
    (hg : o.guard = none) (s x : Operand) (hop : o.op = Op.call { callee := Callee.builtin Builtin.append, args := #[s, x], argTypes := #[23, 23] })
    (w0 : World) (u v y : Value) (A B C : List UInt8) (hs : a.eval s = u) (hy : a.eval x = y) (h : Two w0 w u v A B) (hx : Sl w y C) (hl : A.length + C.length ≤ 100000)
    (hK : ∀ u' w', Two w0 w' u' v (A ++ C) B → w.grownBy w' u.ownBlock → wpList Try.prog ops Q rest (a.put o.dst u') w') :
    wpList Try.prog ops Q (o :: rest) a w := by
  refine wpList_plain hg fun K hK' => ?_
  obtain ⟨v', w', hrun, r1, r2, r3⟩ := run_append_two w w0.heap.size o.type u A.length (secCells A) h.one y C.length (secCells C) hx (length_secCells C) (one_secCells C) (by omega) h.below.size
  unfold Oper.wp
  simp [execOp, hop, resolve, invoke, builtin, hs, hy, hrun, Result.andThen]
  exact hK' _ _ (hK v' w' (h.grow r1 r2 r3) r2)

/-! ### Numbers -/
theorem be_two (n : Nat) : be 2 n = [UInt8.ofNat (n / 256 % 256), UInt8.ofNat (n % 256)] := rfl
theorem be_four (n : Nat) : be 4 n = [UInt8.ofNat (n / 256 / 256 / 256 % 256), UInt8.ofNat (n / 256 / 256 % 256), UInt8.ofNat (n / 256 % 256), UInt8.ofNat (n % 256)] := rfl
theorem build2 (x y : Int) (w : World) : (Instr.buildSlice 23 2 #[(0, .int .u8 x), (1, .int .u8 y)]).run Try.prog w = .ok (.slice (some ⟨w.heap.size, 0, none⟩) 2 2) (w.alloc (.cells #[.int .u8 x, .int .u8 y] 5)) := by
  kernel_rfl
theorem build4 (x y z t : Int) (w : World) : (Instr.buildSlice 23 4 #[(0, .int .u8 x), (1, .int .u8 y), (2, .int .u8 z), (3, .int .u8 t)]).run Try.prog w = .ok (.slice (some ⟨w.heap.size, 0, none⟩) 4 4) (w.alloc (.cells #[.int .u8 x, .int .u8 y, .int .u8 z, .int .u8 t] 5)) := by
  kernel_rfl
theorem build1 (x : Int) (w : World) : (Instr.buildSlice 23 1 #[(0, .int .u8 x)]).run Try.prog w = .ok (.slice (some ⟨w.heap.size, 0, none⟩) 1 1) (w.alloc (.cells #[.int .u8 x] 5)) := by
  kernel_rfl
theorem blk_sl {w : World} {g : Nat} {X : List UInt8} (h : Blk w g X) (hl : X.length ≤ 100000) : Sl w (.slice (some ⟨g, 0, none⟩) X.length X.length) X := by
  refine ⟨_, X.length, rfl, Nat.le_refl _, by simp only [maxLen]; omega, fun _ => ⟨g, 0, rfl, fun j u hu => ?_⟩⟩
  rw [Nat.zero_add, cell_row h]
  simpa using hu
/-- Bytes of the call's own. -/
def Own (w0 w : World) (v : Value) (X : List UInt8) : Prop := w.ownsRow w0.heap.size 5 1 v X.length (secCells X)
theorem own_blk {w0 w : World} {g : Nat} {X : List UInt8} (h : Blk w g X) (hb : w0.heap.size ≤ g) (hl : X.length ≤ 100000) : Own w0 w (.slice (some ⟨g, 0, none⟩) X.length X.length) X := by
  refine ⟨by rw [length_secCells]; omega, .inr ⟨g, X.length, _, rfl, hb, h, Nat.le_refl _, by simp only [maxLen]; omega, by simp [length_secCells], ?_⟩⟩
  rw [List.take_of_length_le (by simp [length_secCells])]
theorem byte_of (m k : Nat) : Value.int .u8 ((m : Int) / (k : Int) % 256) = bcell (UInt8.ofNat (m / k % 256)) := by
  rw [← Int.natCast_ediv]; exact byte_cell _
set_option maxHeartbeats 400000 in
theorem two_any (n : Nat) (w : World) (hn : n < 9223372036854775807) : Calls Try.prog 43 #[.int .i64 (n : Int)] w fun e w' => e = .returned (.slice (some ⟨w.heap.size, 0, none⟩) 2 2) ∧ Blk w' w.heap.size (be 2 n) ∧ Below w.heap.size w w' := by
  have hb2 := build2
  go_enter Try.func43, Try.ntmps43
  go_wp2
  go_ret
  refine ⟨rfl, ?_, (Below.refl _ _).alloc (Nat.le_refl _) _⟩
  refine (heap_alloc_new w _).trans ?_
  rw [be_two]
  simp only [secCells, List.map_cons, List.map_nil]
  rw [← byte_cell n, ← byte_of n 256]
  rfl
set_option maxHeartbeats 400000 in
theorem four_any (n : Nat) (w : World) (hn : n < 9223372036854775807) : Calls Try.prog 44 #[.int .i64 (n : Int)] w fun e w' => e = .returned (.slice (some ⟨w.heap.size, 0, none⟩) 4 4) ∧ Blk w' w.heap.size (be 4 n) ∧ Below w.heap.size w w' := by
  have hb4 := build4
  go_enter Try.func44, Try.ntmps44
  go_wp2
  go_ret
  refine ⟨rfl, ?_, (Below.refl _ _).alloc (Nat.le_refl _) _⟩
  refine (heap_alloc_new w _).trans ?_
  rw [be_four]
  simp only [secCells, List.map_cons, List.map_nil, Nat.div_div_eq_div_mul]
  rw [← byte_cell n, ← byte_of n 256, ← byte_of n (256 * 256), ← byte_of n (256 * 256 * 256)]
  rfl
set_option maxHeartbeats 400000 in
theorem get_num {w : World} {v : Value} {bs : List UInt8} (h : Sl w v bs) (hl : bs.length ≤ 4) :
    Calls Try.prog 45 #[v] w fun e w' => e = .returned (.int .i64 (beval bs : Nat)) ∧ w' = w := by
  obtain ⟨ao, c, rfl, hc1, hc2⟩ := h.len
  simp only [maxLen] at hc2
  have HG : Hid (∀ k, k < bs.length → ∃ g o, ao = some ⟨g, o, none⟩ ∧ w.cell? ⟨g, o + k, none⟩ = some (.int .u8 ((bs[k]?.getD 0).toNat : Int))) := fun k hk => by simpa using h.get k hk
  have HT : Hid (∀ k, k < bs.length → beval (bs.take (k + 1)) = beval (bs.take k) * 256 + (bs[k]?.getD 0).toNat) := fun k hk => by
    rw [List.take_succ_eq_append_getElem hk, beval_snoc, List.getElem?_eq_getElem hk]
    rfl
  have HE : Hid (beval (bs.take bs.length) = beval bs) := by rw [Hid, List.take_length]
  clear h
  generalize bs.length = L at *
  go_enter Try.func45, Try.ntmps45
  go_wp2
  go_loop [4, 3] (fun i v => ∃ k : Nat, k ≤ L ∧ i = .int .i64 k ∧ v = .int .i64 (beval (bs.take k) : Nat)) (fun i _ => L - (intOf i).toNat)
  case atStart => exact ⟨0, by omega, rfl, rfl⟩
  case round =>
    obtain ⟨k, hk, rfl, rfl⟩ := hrel
    by_cases hlt : k < L
    · obtain ⟨g, o, rfl, hcell⟩ := HG.out k hlt
      have hb1 := beval_take_lt bs k (by omega)
      have hb2 := (bs[k]?.getD 0).toNat_lt
      have HTk := hide (HT.out k hlt)
      generalize beval (bs.take k) = p at *
      generalize (bs[k]?.getD 0).toNat = x at *
      go_wp2
      go_round
      case rel =>
        refine ⟨k + 1, by omega, by go_num, ?_⟩
        rw [HTk.out]
        congr 1
        omega
      case measure => simp [intOf]; omega
    · have hk8 : k = L := by omega
      subst hk8
      go_wp2
      go_ret
      rw [HE.out]
      exact ⟨rfl, rfl⟩

/-! ### The document's slots -/
def rsCells (S : List Slt) : List Value := S.flatMap fun s => [.bool s.isSome, .string (strOf (s.getD []))]
theorem rsCells_cons (s : Slt) (S : List Slt) : rsCells (s :: S) = .bool s.isSome :: .string (strOf (s.getD [])) :: rsCells S := rfl
theorem length_rsCells : ∀ S, (rsCells S).length = S.length * 2
  | [] => rfl
  | s :: S => by rw [rsCells_cons, List.length_cons, List.length_cons, length_rsCells S, List.length_cons]; omega
theorem rsCells_append (A B : List Slt) : rsCells (A ++ B) = rsCells A ++ rsCells B := by simp [rsCells]
theorem rsCells_get : ∀ (S : List Slt) (i : Nat), i < S.length → (rsCells S)[i * 2]? = some (.bool (S.getD i none).isSome) ∧ (rsCells S)[i * 2 + 1]? = some (.string (strOf ((S.getD i none).getD [])))
  | [], i, h => by simp at h
  | y :: S, 0, h => ⟨rfl, rfl⟩
  | y :: S, i + 1, h => by
    have := rsCells_get S i (by simpa using h)
    rw [rsCells_cons, show (i + 1) * 2 = i * 2 + 1 + 1 by omega, List.getD_cons_succ]
    simpa using this
theorem one_rsCells (S : List Slt) : ∀ u ∈ rsCells S, u.oneCell' = true := by
  intro u hu
  obtain ⟨s, hs, hu⟩ := List.mem_flatMap.1 hu
  simp at hu
  rcases hu with rfl | rfl <;> rfl
/-- The document's slots that may be read. -/
def RSAt (w : World) (v : Value) (S : List Slt) : Prop := Row w v S.length (rsCells S)
theorem RSAt.below {w w' : World} {v : Value} {S : List Slt} (h : RSAt w v S) (hb : Below w.heap.size w w') : RSAt w' v S := Row.belowW h hb
theorem RSAt.get {w : World} {ao : Option Addr} {n c : Nat} {S : List Slt} (h : RSAt w (.slice ao n c) S) (i : Nat) (hi : i < S.length) : ∃ g o, ao = some ⟨g, o, none⟩ ∧ w.cell? ⟨g, o + i * 2, none⟩ = some (.bool (S.getD i none).isSome) ∧ w.cell? ⟨g, o + i * 2 + 1, none⟩ = some (.string (strOf ((S.getD i none).getD []))) := by
  obtain ⟨ao', c', e, h1, h2, h3⟩ := h
  injection e with e1 e2 e3
  subst e1
  obtain ⟨g, o, ea, hr⟩ := h3 (fun h0 => by
    have := length_rsCells S
    rw [h0] at this
    simp at this; omega)
  obtain ⟨g1, g2⟩ := rsCells_get S i hi
  exact ⟨g, o, ea, hr _ _ g1, by rw [Nat.add_assoc]; exact hr _ _ g2⟩
theorem RSAt.len {w : World} {v : Value} {S : List Slt} (h : RSAt w v S) : ∃ ao c, v = .slice ao S.length c ∧ S.length ≤ c ∧ c ≤ maxLen := let ⟨ao, c, e, h1, h2, _⟩ := h; ⟨ao, c, e, h1, h2⟩
theorem strOf_size (bs : List UInt8) : (strOf bs).size = bs.length := by
  show bs.toArray.size = _
  simp
set_option maxHeartbeats 400000 in
theorem rsize_any {w : World} {v : Value} {S : List Slt} (h : RSAt w v S) (hs : tsize S ≤ 100000) : Calls Try.prog 46 #[v] w fun e w' => e = .returned (.int .i64 (tsize S : Nat)) ∧ w' = w := by
  obtain ⟨ao, c, rfl, hc1, hc2⟩ := h.len
  simp only [maxLen] at hc2
  have H := hide h
  have HT : Hid (tsize S = 6 + 4 * S.length + blen (S.take S.length)) := by rw [Hid, List.take_length]; rfl
  have HU : Hid (∀ k, blen (S.take k) ≤ blen S) := fun k => blen_take_le S k
  have HV : Hid (∀ k, k < S.length → blen (S.take (k + 1)) = blen (S.take k) + ((S.getD k none).getD []).length) := fun k hk => blen_take_succ hk
  have hb0 : blen S ≤ 100000 := by unfold tsize at hs; omega
  have hL0 : 4 * S.length ≤ 100000 := by unfold tsize at hs; omega
  clear h
  generalize hL : S.length = L at *
  generalize tsize S = T at *
  go_enter Try.func46, Try.ntmps46
  go_wp2
  go_loop [4, 3] (fun i n => ∃ j B : Nat, j ≤ L ∧ i = .int .i64 (j : Int) ∧ n = .int .i64 (6 + 4 * (L : Int) + (B : Int)) ∧ B = blen (S.take j)) (fun i _ => L - (intOf i).toNat)
  case atStart => exact ⟨0, 0, Nat.zero_le _, rfl, by go_num, by simp [blen]⟩
  case round =>
    obtain ⟨j, B, hj, rfl, rfl, hB⟩ := hrel
    have hB1 : B ≤ 100000 := by have := HU.out j; omega
    have HBe := hide hB
    clear hB
    by_cases hlt : j < L
    · obtain ⟨g, o, rfl, k1, k2⟩ := H.out.get j (by omega)
      have HV1 := hide (HV.out j hlt)
      have HU1 := hide (HU.out (j + 1))
      have hsz := strOf_size ((S.getD j none).getD [])
      have hm : ((S.getD j none).getD []).length ≤ 100000 := by have := HV1.out; have := HU1.out; omega
      clear hL
      generalize ((S.getD j none).getD []).length = m at *
      generalize strOf ((S.getD j none).getD []) = st at *
      go_wp2
      go_round
      case rel =>
        refine ⟨j + 1, B + m, by omega, by go_num, ?_, by rw [HV1.out, HBe.out]⟩
        congr 1
        omega
      case measure => simp [intOf]; omega
    · have hjL : j = L := by omega
      subst hjL
      go_wp2
      go_ret
      rw [HT.out, ← HBe.out]
      refine ⟨congrArg (fun x => Ending.returned (Value.int .i64 x)) (?_ : (_ : Int) = _), rfl⟩
      omega
end Go.Proofs.Ytdddeneppciiiaa
