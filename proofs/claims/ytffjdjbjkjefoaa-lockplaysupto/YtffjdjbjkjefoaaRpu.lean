/- The document's Put. -/
import Derived.Test.YtffjdjbjkjefoaaApt
namespace Go.Proofs.Ytffjdjbjkjefoaa
open Go.RowKit Go.WideAt
set_option linter.unusedVariables false
set_option linter.unusedSimpArgs false

theorem rise_le {nums : List Int} (h : nums.Pairwise (· < ·)) {i j : Nat} {x y : Int} (hi : nums[i]? = some x) (hj : nums[j]? = some y) : i ≤ j ↔ x ≤ y := by
  obtain ⟨hi', rfl⟩ := List.getElem?_eq_some_iff.1 hi
  obtain ⟨hj', rfl⟩ := List.getElem?_eq_some_iff.1 hj
  rw [List.pairwise_iff_getElem] at h
  rcases Nat.lt_trichotomy i j with c | c | c
  · have := h i j hi' hj' c; constructor <;> intro <;> omega
  · subst c; simp
  · have := h j i hj' hi' c; constructor <;> intro <;> omega
theorem rise_inj {nums : List Int} (h : nums.Pairwise (· < ·)) {i j : Nat} {x : Int} (hi : nums[i]? = some x) (hj : nums[j]? = some x) : i = j := by
  exact Nat.le_antisymm ((rise_le h hi hj).2 (Int.le_refl _)) ((rise_le h hj hi).2 (Int.le_refl _))
theorem int_cells {w : World} {v : Value} {l : List Int} (h : Row w v l.length (l.map icell)) : ∃ a c, v = .slice a l.length c ∧ ∀ (i : Nat) (x : Int), l[i]? = some x → ∃ g o, a = some ⟨g, o, none⟩ ∧ g < w.heap.size ∧ w.cell? ⟨g, o + i, none⟩ = some (.int .i64 x) := by
  obtain ⟨ao, c, rfl, _, _, h3⟩ := h
  refine ⟨ao, c, rfl, fun i x hx => ?_⟩
  obtain ⟨g, o, e, hr⟩ := h3 (by
    intro e
    rw [List.map_eq_nil_iff] at e
    subst e
    simp at hx)
  have := hr i (icell x) (by simp [hx])
  exact ⟨g, o, e, World.block_lt_of_cell? _ _ this, this⟩
theorem take_snoc {α : Type} {l : List α} {k : Nat} {x : α} (hx : l[k]? = some x) : l.take (k + 1) = l.take k ++ [x] := by
  obtain ⟨hl, rfl⟩ := List.getElem?_eq_some_iff.1 hx
  exact List.take_succ_eq_append_getElem hl
theorem row_new (w : World) (t : TypeId) (cs : List Value) (n : Nat) (hc : n ≤ 1000) : Row (w.alloc (.cells cs.toArray t)) (.slice (some ⟨w.heap.size, 0, none⟩) n n) n cs :=
  ⟨_, n, rfl, Nat.le_refl _, by simp only [maxLen]; omega, fun _ => ⟨w.heap.size, 0, rfl, fun j u hu => by rw [Nat.zero_add, cell_row (heap_alloc_new w _)]; simpa using hu⟩⟩
def cutAt (ao : Option Addr) (c l : Nat) : Option Addr := if c = l then ao else ao.map (·.add l)
theorem cut27 (w : World) (ao : Option Addr) (n c l : Nat) (hl : l ≤ n) : (Instr.sliceAt 27 (.slice ao n c) (some (.int .i64 (l : Int))) none none).run Try.prog w = .ok (.slice (cutAt ao c l) (n - l) (c - l)) w := by
  obtain ⟨i, hi, hz⟩ := Option.map_eq_some_iff.1 Try.info3
  simp only [Prod.mk.injEq] at hz
  obtain ⟨_, hsz, _⟩ := hz
  have hu := Try.underlying27
  have h2 : (l : Int) ≤ (n : Int) := by omega
  simp [Instr.sliceAt, Instr.slice, run_underlying hu, Instr.sliceBounds, Instr.sliceBound, asIntOf, h2, sizeOf, typeInfo, hi, hsz, cutAt, Nat.mul_one]
  by_cases e : c = l
  · simp [e]; intro hx; omega
  · simp [e]; intro hx; omega
theorem row_from {w : World} {ao : Option Addr} {n c : Nat} {l : List Int} (h : Row w (.slice ao n c) l.length (l.map icell)) (k : Nat) (hk : k ≤ l.length) : Row w (.slice (cutAt ao c k) (l.length - k) (c - k)) (l.drop k).length ((l.drop k).map icell) := by
  obtain ⟨ao', c', e, h1, h2, h3⟩ := h
  injection e with e1 e2 e3
  subst e1 e2 e3
  have hlen : (l.drop k).length = l.length - k := by rw [List.length_drop]
  refine ⟨_, c - k, by rw [hlen], by omega, by omega, fun hx => ?_⟩
  have hne : l.drop k ≠ [] := fun h0 => hx (by rw [h0]; rfl)
  have hlt : k < l.length := by
    rcases Nat.lt_or_ge k l.length with h | h
    · exact h
    · exact absurd (List.drop_of_length_le h) hne
  obtain ⟨g, o, ea, hr⟩ := h3 (fun h0 => by
    have : l = [] := List.map_eq_nil_iff.1 h0
    rw [this] at hlt; simp at hlt)
  subst ea
  have hcl : c ≠ k := by omega
  refine ⟨g, o + k, by simp [cutAt, hcl, Addr.add], fun j u hu => ?_⟩
  have := hr (k + j) u (by rw [List.map_drop, List.getElem?_drop] at hu; exact hu)
  rw [show o + k + j = o + (k + j) by omega]
  exact this
/-- What Put tells. -/
structure PutIs (l : List Int) (x : Int) (m : List Int) : Prop where
  rise : m.Pairwise (· < ·)
  just : ∀ y, y ∈ m ↔ y = x ∨ y ∈ l
  len : m.length ≤ l.length + 1
theorem put_is {l : List Int} (hr : l.Pairwise (· < ·)) {x : Int} {k k' : Nat} (hk : k ≤ l.length) (h1 : ∀ y ∈ l.take k, y < x) (h2 : ∀ y ∈ l.drop k', x < y) (hkk : k ≤ k') (h3 : ∀ y, (∃ i, k ≤ i ∧ i < k' ∧ l[i]? = some y) → y = x) : PutIs l x (l.take k ++ [x] ++ l.drop k') := by
  refine ⟨?_, fun y => ?_, ?_⟩
  · rw [List.append_assoc, List.pairwise_append]
    refine ⟨hr.sublist (List.take_sublist _ _), ?_, ?_⟩
    · rw [List.singleton_append, List.pairwise_cons]
      exact ⟨h2, hr.sublist (List.drop_sublist _ _)⟩
    · intro a ha b hb
      have ha' := h1 a ha
      rcases List.mem_append.1 hb with h | h
      · rw [List.mem_singleton] at h; omega
      · have := h2 b h; omega
  · constructor
    · intro h
      rcases List.mem_append.1 h with h | h
      · rcases List.mem_append.1 h with h | h
        · exact .inr (List.mem_of_mem_take h)
        · exact .inl (List.mem_singleton.1 h)
      · exact .inr (List.mem_of_mem_drop h)
    · rintro (h | h)
      · subst h; simp
      · obtain ⟨i, hi, e⟩ := List.mem_iff_getElem.1 h
        by_cases a : i < k
        · refine List.mem_append.2 (.inl (List.mem_append.2 (.inl ?_)))
          exact List.mem_iff_getElem.2 ⟨i, by rw [List.length_take]; omega, by rw [List.getElem_take]; exact e⟩
        · by_cases b : i < k'
          · have := h3 y ⟨i, by omega, b, by rw [List.getElem?_eq_getElem hi, e]⟩
            subst this
            simp
          · refine List.mem_append.2 (.inr ?_)
            exact List.mem_iff_getElem.2 ⟨i - k', by rw [List.length_drop]; omega, by rw [List.getElem_drop]; simp [show k' + (i - k') = i by omega, e]⟩
  · simp only [List.length_append, List.length_take, List.length_drop, List.length_singleton]
    omega
theorem app3 (w : World) (base : Nat) (ty : TypeId) (v : Value) (F : List Int) (hown : w.ownsRow base 3 1 v F.length (F.map icell)) (x : Value) (G : List Int) (hx : Row w x G.length (G.map icell)) (hl : F.length + G.length ≤ 10000000000) (hb : base ≤ w.heap.size) :
    ∃ v' w', (Builtin.append_ #[27, 27] ty #[v, x]).run Try.prog w = .ok v' w' ∧ w'.ownsRow base 3 1 v' (F ++ G).length ((F ++ G).map icell) ∧ w.grownBy w' v.ownBlock := by
  have h1 : ∀ u ∈ G.map icell, u.oneCell' = true := by
    intro u hu
    obtain ⟨y, _, rfl⟩ := List.mem_map.1 hu
    rfl
  obtain ⟨v', w', r1, r2, r3⟩ := run_append_row (P := Try.prog) w base 27 ty 3 (.int .i64 0) 1 8 Try.underlying27 Try.info3 rfl (by omega) v F.length (F.map icell) hown x G.length (G.map icell) hx (by simp) h1 (by omega) (by omega) hb
  refine ⟨v', w', r1, ?_, r3⟩
  rw [List.map_append, List.length_append]
  exact r2
theorem wpList_append_run {P : Program} {ops : Array Oper} {rest : List Oper} {o : Oper} {a : Act} {w : World} {Q : Exit → Act → World → Prop}
    (hg : o.guard = none) (s x : Operand) (t : TypeId) (hop : o.op = Op.call { callee := Callee.builtin Builtin.append, args := #[s, x], argTypes := #[t, t] }) (v y v' : Value) (w' : World) (hs : a.eval s = v) (hy : a.eval x = y)
    (hrun : (Builtin.append_ #[t, t] o.type #[v, y]).run P w = .ok v' w') (hK : wpList P ops Q rest (a.put o.dst v') w') : wpList P ops Q (o :: rest) a w := by
  refine wpList_plain hg fun K hK' => ?_
  unfold Oper.wp
  simp [execOp, hop, resolve, invoke, builtin, hs, hy, hrun, Result.andThen]
  exact hK' _ _ hK
set_option maxHeartbeats 1500000 in
set_option maxRecDepth 100000 in
theorem put_any {w : World} {v : Value} {l : List Int} (h : Row w v l.length (l.map icell)) (hl : l.length ≤ 1000000000) (hr : l.Pairwise (· < ·)) (x : Int) :
    Calls Try.prog 40 #[v, .int .i64 x] w fun e w' => ∃ (v' : Value) (m : List Int), e = .returned v' ∧ w'.ownsRow w.heap.size 3 1 v' m.length (m.map icell) ∧ PutIs l x m ∧ Below w.heap.size w w' := by
  obtain ⟨a, c, rfl, hcell⟩ := int_cells h
  have HC := hide hcell
  have HR := hide hr
  have HW := hide h
  obtain ⟨n, hn⟩ : ∃ n, l.length = n := ⟨_, rfl⟩
  have HN := hide hn
  rw [hn] at hl ⊢
  clear h hcell hn hr
  go_enter Try.func40, Try.ntmps40
  go_wp2
  go_loopw [5, 6] (fun v i wr => ∃ k : Nat, k ≤ n ∧ i = .int .i64 k ∧ (∀ y ∈ l.take k, y < x) ∧ wr.ownsRow w.heap.size 3 1 v (l.take k).length ((l.take k).map icell) ∧ Below w.heap.size w wr) (fun _ i _ => n - (intOf i).toNat)
  case atStart => exact ⟨0, by omega, rfl, by simp, ⟨rfl, .inl ⟨rfl, rfl⟩⟩, Below.refl _ _⟩
  case round =>
    obtain ⟨k, hk, rfl, hL, hrow, hB⟩ := hrel
    have HL := hide hL
    have HROW := hide hrow
    have HB := hide hB
    have htl : (l.take k).length = k := by rw [List.length_take, HN.out]; omega
    have HTL := hide htl
    clear hL hrow hB htl
    by_cases hgo : ∃ y, l[k]? = some y ∧ y < x
    · obtain ⟨y, hy, hyx⟩ := hgo
      have hlt : k < n := by rw [← HN.out]; exact (List.getElem?_eq_some_iff.1 hy).1
      obtain ⟨g, o, rfl, hgl, hcy⟩ := HC.out k y hy
      have hc0 : wr.cell? ⟨g, o + k, none⟩ = some (.int .i64 y) := (HB.out.cell (p := ⟨g, o + k, none⟩) hgl).trans hcy
      have HTK : Hid (l.take (k + 1) = l.take k ++ [y]) := take_snoc hy
      have HR2 := hide (row_new wr 3 [.int .i64 y] 1 (by omega))
      have HB2 : Hid (Below w.heap.size w (wr.alloc (.cells #[.int .i64 y] 3))) := HB.out.trans ((Below.refl _ wr).alloc HB.out.size _)
      have HO2 : Hid ((wr.alloc (.cells #[.int .i64 y] 3)).ownsRow w.heap.size 3 1 u5 (l.take k).length ((l.take k).map icell)) := owns_below HROW.out ((Below.refl _ wr).alloc (Nat.le_refl _) _) (Nat.le_refl _)
      have HL2 : Hid (∀ y ∈ l.take (k + 1), y < x) := by
        intro z hz
        rw [HTK.out] at hz
        rcases List.mem_append.1 hz with h | h
        · exact HL.out z h
        · rw [List.mem_singleton] at h; omega
      clear hy hcy
      go_wp2_with (refine wpList_append_row rfl (.tmp 19) (.tmp 24) 27 rfl w.heap.size 3 (.int .i64 0) 1 8 Try.underlying27 Try.info3 rfl (by omega) _ _ _ _ 1 _ rfl rfl HO2.out HR2.out rfl (by simp [Value.oneCell']) (by have := HTL.out; omega) (by have := HTL.out; omega) HB2.out.size ?_; intro v7 w7 ho7 hg7)
      go_roundw
      case rel =>
        refine ⟨k + 1, by omega, by go_num, HL2.out, ?_, HB2.out.grown hg7 HB2.out.size (fun k hk => (HO2.out.lt k hk).1)⟩
        rw [HTK.out, List.map_append, List.length_append]
        exact ho7
      case measure => simp [intOf]; omega
    · have hstop : ∀ y, l[k]? = some y → x ≤ y := fun y hy => Classical.byContradiction fun h => hgo ⟨y, hy, by omega⟩
      have HST := hide hstop
      clear hgo hstop
      have HR2 : Hid (Row (wr.alloc (.cells #[.int .i64 x] 3)) (.slice (some ⟨wr.heap.size, 0, none⟩) 1 1) 1 [.int .i64 x]) := row_new wr 3 [.int .i64 x] 1 (by omega)
      have HB2 : Hid (Below w.heap.size w (wr.alloc (.cells #[.int .i64 x] 3))) := HB.out.trans ((Below.refl _ wr).alloc HB.out.size _)
      have HO2 : Hid ((wr.alloc (.cells #[.int .i64 x] 3)).ownsRow w.heap.size 3 1 u5 (l.take k).length ((l.take k).map icell)) := owns_below HROW.out ((Below.refl _ wr).alloc (Nat.le_refl _) _) (Nat.le_refl _)
      have HEQ : Hid ((l.take k ++ [x]).map icell = (l.take k).map icell ++ [.int .i64 x]) := by simp [Hid, icell]
      have HDR : Hid (∀ k', k' ≤ n → ∀ W, Below w.heap.size w W → Row W (.slice (cutAt a c k') (n - k') (c - k')) (l.drop k').length ((l.drop k').map icell)) := fun k' hk' W hb => by
        have h := row_from (HW.out.belowW hb) k' (by rw [HN.out]; exact hk')
        rw [HN.out] at h
        exact h
      have HDL : Hid (∀ k', (l.drop k').length = n - k') := fun k' => by rw [List.length_drop, HN.out]
      by_cases hlt : k < n
      · obtain ⟨y, hy⟩ : ∃ y, l[k]? = some y := ⟨_, List.getElem?_eq_getElem (by rw [HN.out]; exact hlt)⟩
        have hxy := HST.out y hy
        obtain ⟨g, o, rfl, hgl, hcy⟩ := HC.out k y hy
        have HCY : Hid (∀ W, Below w.heap.size w W → W.cell? ⟨g, o + k, none⟩ = some (.int .i64 y)) := fun W hb => (hb.cell (p := ⟨g, o + k, none⟩) hgl).trans hcy
        have hc0 := HCY.out wr HB.out
        have HY := hide hy
        clear hy hcy
        go_upto_region 7 with (refine wpList_append_row rfl (.tmp 28) (.tmp 30) 27 rfl w.heap.size 3 (.int .i64 0) 1 8 Try.underlying27 Try.info3 rfl (by omega) _ _ _ _ 1 _ rfl rfl HO2.out HR2.out rfl (by simp [Value.oneCell']) (by have := HTL.out; omega) (by have := HTL.out; omega) HB2.out.size ?_; intro v7 w7 ho7 hg7)
        have HB7 : Hid (Below w.heap.size w w7) := HB2.out.grown hg7 HB2.out.size (fun k hk => (HO2.out.lt k hk).1)
        have HO7 : Hid (w7.ownsRow w.heap.size 3 1 v7 (l.take k ++ [x]).length ((l.take k ++ [x]).map icell)) := by rw [HEQ.out, List.length_append]; exact ho7
        obtain ⟨a7, c7, rfl⟩ := owns_len HO7.out
        have hc7 := HCY.out w7 HB7.out
        clear hc0 ho7 hg7 HO2 HR2 HB2
        by_cases hex : y = x
        · have hb : (y == x) = true := by simp [hex]
          have HPI : Hid (PutIs l x (l.take k ++ [x] ++ l.drop (k + 1))) := put_is HR.out (by rw [HN.out]; omega) HL.out (fun z hz => by
            obtain ⟨i, hi, e⟩ := List.mem_iff_getElem.1 hz
            rw [List.length_drop] at hi
            rw [List.getElem_drop] at e
            have h1 : l[k + 1 + i]? = some z := by rw [List.getElem?_eq_getElem (by omega), e]
            have h2 := rise_le HR.out HY.out h1
            have h3 : y ≤ z := h2.1 (by omega)
            have h4 : y ≠ z := fun e => by subst e; have := rise_inj HR.out HY.out h1; omega
            omega) (by omega) (fun z hz => by
            obtain ⟨i, h1, h2, h3⟩ := hz
            have : i = k := by omega
            subst this
            rw [HY.out] at h3
            injection h3 with h3
            omega)
          have HD := hide (HDR.out (k + 1) (by omega) w7 HB7.out)
          obtain ⟨v8, w8, hrun8, ho8, hg8⟩ := app3 w7 w.heap.size 27 _ _ HO7.out _ _ HD.out (by rw [List.length_append, HTL.out, HDL.out]; simp; omega) HB7.out.size
          clear hex
          have hcut' := cut27 w7 (some ⟨g, o, none⟩) n c (k + 1) (by omega)
          have hcast : ((k + 1 : Nat) : Int) = (k : Int) + 1 := by omega
          rw [hcast] at hcut'
          generalize Value.slice (cutAt (some ⟨g, o, none⟩) c (k + 1)) (n - (k + 1)) (c - (k + 1)) = sv at hcut' hrun8
          go_wp2_with (refine wpList_append_run rfl (.tmp 46) (.tmp 49) 27 rfl _ sv _ _ rfl rfl hrun8 ?_)
          go_ret
          exact ⟨_, _, rfl, ho8, HPI.out, HB7.out.grown hg8 HB7.out.size (fun k hk => (HO7.out.lt k hk).1)⟩
        · have hb : (y == x) = false := by simp [hex]
          have HPI : Hid (PutIs l x (l.take k ++ [x] ++ l.drop k)) := put_is HR.out (by rw [HN.out]; omega) HL.out (fun z hz => by
            obtain ⟨i, hi, e⟩ := List.mem_iff_getElem.1 hz
            rw [List.length_drop] at hi
            rw [List.getElem_drop] at e
            have h1 : l[k + i]? = some z := by rw [List.getElem?_eq_getElem (by omega), e]
            have h2 := rise_le HR.out HY.out h1
            have h3 : y ≤ z := h2.1 (by omega)
            omega) (by omega) (fun z hz => by
            obtain ⟨i, h1, h2, h3⟩ := hz
            omega)
          have HD := hide (HDR.out k (by omega) w7 HB7.out)
          obtain ⟨v8, w8, hrun8, ho8, hg8⟩ := app3 w7 w.heap.size 27 _ _ HO7.out _ _ HD.out (by rw [List.length_append, HTL.out, HDL.out]; simp; omega) HB7.out.size
          clear hex
          have hcut' := cut27 w7 (some ⟨g, o, none⟩) n c k (by omega)
          generalize Value.slice (cutAt (some ⟨g, o, none⟩) c k) (n - k) (c - k) = sv at hcut' hrun8
          go_wp2_with (refine wpList_append_run rfl (.tmp 46) (.tmp 49) 27 rfl _ sv _ _ rfl rfl hrun8 ?_)
          go_ret
          exact ⟨_, _, rfl, ho8, HPI.out, HB7.out.grown hg8 HB7.out.size (fun k hk => (HO7.out.lt k hk).1)⟩
      · have hkn : k = n := by omega
        have HPI : Hid (PutIs l x (l.take k ++ [x] ++ l.drop k)) := put_is HR.out (by rw [HN.out]; omega) HL.out (fun z hz => by
          rw [List.drop_of_length_le (by rw [HN.out]; omega)] at hz
          simp at hz) (by omega) (fun z hz => by
          obtain ⟨i, h1, h2, h3⟩ := hz
          omega)
        clear hkn
        go_upto_region 7 with (refine wpList_append_row rfl (.tmp 28) (.tmp 30) 27 rfl w.heap.size 3 (.int .i64 0) 1 8 Try.underlying27 Try.info3 rfl (by omega) _ _ _ _ 1 _ rfl rfl HO2.out HR2.out rfl (by simp [Value.oneCell']) (by have := HTL.out; omega) (by have := HTL.out; omega) HB2.out.size ?_; intro v7 w7 ho7 hg7)
        have HB7 : Hid (Below w.heap.size w w7) := HB2.out.grown hg7 HB2.out.size (fun k hk => (HO2.out.lt k hk).1)
        have HO7 : Hid (w7.ownsRow w.heap.size 3 1 v7 (l.take k ++ [x]).length ((l.take k ++ [x]).map icell)) := by rw [HEQ.out, List.length_append]; exact ho7
        obtain ⟨a7, c7, rfl⟩ := owns_len HO7.out
        clear ho7 hg7 HO2 HR2 HB2
        have HD := hide (HDR.out k (by omega) w7 HB7.out)
        obtain ⟨v8, w8, hrun8, ho8, hg8⟩ := app3 w7 w.heap.size 27 _ _ HO7.out _ _ HD.out (by rw [List.length_append, HTL.out, HDL.out]; simp; omega) HB7.out.size
        have hcut' := cut27 w7 a n c k (by omega)
        generalize Value.slice (cutAt a c k) (n - k) (c - k) = sv at hcut' hrun8
        go_wp2_with (refine wpList_append_run rfl (.tmp 46) (.tmp 49) 27 rfl _ sv _ _ rfl rfl hrun8 ?_)
        go_ret
        exact ⟨_, _, rfl, ho8, HPI.out, HB7.out.grown hg8 HB7.out.size (fun k hk => (HO7.out.lt k hk).1)⟩
end Go.Proofs.Ytffjdjbjkjefoaa
