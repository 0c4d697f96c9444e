/- ways: of each place the places to which its edges lead. -/
import Derived.Test.YtaoghggbcbpapaaApt
import Derived.Laws.MakeOwn
namespace Go.Proofs.Ytaoghggbcbpapaa
open Go.RowKit
set_option linter.unusedVariables false
set_option linter.unusedSimpArgs false

theorem run_append_two (w : World) (base : Nat) (ty : TypeId) (v : Value) (n : Nat) (xs : List Value) (hown : w.ownsRow base 3 1 v n xs)
    (x : Value) (m : Nat) (news : List Value) (hx : Row w x m news) (hl : news.length = m) (h1 : ∀ u ∈ news, u.oneCell' = true)
    (hbytes : n + m ≤ 10000000) (hbase : base ≤ w.heap.size) :
    ∃ v' w', (Builtin.append_ #[29, 29] ty #[v, x]).run Try.prog w = .ok v' w' ∧ w'.ownsRow base 3 1 v' (n + m) (xs ++ news) ∧ w.grownBy w' v.ownBlock ∧ (∀ k, v'.ownBlock = some k → v.ownBlock = some k ∨ w.heap.size ≤ k) := by
  obtain ⟨i, hi, hz⟩ := Option.map_eq_some_iff.1 Try.info3
  simp only [Prod.mk.injEq] at hz
  obtain ⟨hz, hsize, hby⟩ := hz
  have hmax : n + m ≤ maxLen := by simp only [maxLen]; omega
  obtain ⟨v', w', hr, ho, hgr⟩ := run_append_row (P := Try.prog) w base 29 ty 3 (.int .i64 0) 1 8 Try.underlying29 Try.info3 rfl (by omega) v n xs hown x m news hx (by omega) h1 (by omega) (by omega) hbase
  refine ⟨v', w', hr, ho, hgr, ?_⟩
  rcases hown.2 with ⟨rfl, rfl⟩ | ⟨g, cap, cur, rfl, hbg, hg, hnc, hcm, hcs, htake⟩
  · obtain rfl : xs = [] := List.eq_nil_of_length_eq_zero (by simpa using hown.1)
    obtain ⟨v2, w2, hr2, ho2, _⟩ := run_append_row (P := Try.prog) w w.heap.size 29 ty 3 (.int .i64 0) 1 8 Try.underlying29 Try.info3 rfl (by omega) (.slice none 0 0) 0 [] (World.ownsRow_nil w _ 3 1) x m news hx (by omega) h1 (by omega) (by omega) (Nat.le_refl _)
    have e := hr.symm.trans hr2
    injection e with e1 e2
    subst e1
    exact fun k hk => .inr (ho2.lt k hk).1
  · obtain ⟨ao, c, rfl, c1, c2, hrr⟩ := hx
    cases ao with
    | none =>
      have hn : news = [] := by
        refine Classical.byContradiction fun hne => ?_
        obtain ⟨g, o, e, _⟩ := hrr hne
        cases e
      subst hn
      have hm : m = 0 := by simpa using hl.symm
      subst hm
      have hsrc : Src Try.prog i.size 29 (.slice none 0 c) 0 [] w := Src.ofNil w Try.underlying29 c
      have hr2 := run_append_room_src (P := Try.prog) w 29 29 ty 3 i Try.underlying29 hi g 0 n cap _ 0 [] hsrc (by omega) (fun j hj => by simp at hj) (fun j hj => by simp at hj)
      have e := hr.symm.trans hr2
      injection e with e1 e2
      subst e1
      exact fun k hk => .inl hk
    | some a =>
      have hnews : ∀ j u, news[j]? = some u → w.cell? (a.add j) = some u := fun j u hu => by
        obtain ⟨g, o, e, hrg⟩ := hrr (fun h0 => by rw [h0] at hu; simp at hu)
        injection e with e
        subst e
        rw [Addr.add_mid]
        exact hrg j u hu
      by_cases hroom : n + m ≤ cap
      · have hr2 := run_append_room (P := Try.prog) w 29 ty 3 i Try.underlying29 hi g n cap cur hg a m c news (by rw [hl, hsize]; omega) hnews h1 hroom (by rw [hl, hcs, hsize]; omega)
        have e := hr.symm.trans hr2
        injection e with e1 e2
        subst e1
        exact fun k hk => .inl hk
      · obtain ⟨v2, w2, hr2, ho2, _⟩ := run_append_arg_grows (P := Try.prog) w 29 ty 3 i (.int .i64 0) 1 8 Try.underlying29 hi hz hsize hby rfl (by omega) ⟨g, 0, none⟩ n cap xs hown.1 (hown.cells rfl) a m c news (by omega) hnews (by omega) hmax (by omega)
        have e := hr.symm.trans hr2
        injection e with e1 e2
        subst e1
        exact fun k hk => .inr (ho2.lt k hk).1
/-- .. at a plain region's list. -/
theorem wpList_append_two {ops : Array Oper} {rest : List Oper} {o : Oper} {a : Act} {w : World} {Q : Exit → Act → World → Prop}
    (hg : o.guard = none) (s x : Operand) (hop : o.op = Op.call { callee := Callee.builtin Builtin.append, args := #[s, x], argTypes := #[29, 29] })
    (base : Nat) (v : Value) (n : Nat) (xs : List Value) (y : Value) (m : Nat) (news : List Value) (hs : a.eval s = v) (hy : a.eval x = y) (hown : w.ownsRow base 3 1 v n xs)
    (hx : Row w y m news) (hl : news.length = m) (h1 : ∀ u ∈ news, u.oneCell' = true) (hbytes : n + m ≤ 10000000) (hbase : base ≤ w.heap.size)
    (hK : ∀ v' w', w'.ownsRow base 3 1 v' (n + m) (xs ++ news) → w.grownBy w' v.ownBlock → (∀ k, v'.ownBlock = some k → v.ownBlock = some k ∨ w.heap.size ≤ k) → wpList Try.prog ops Q rest (a.put o.dst v') w') :
    wpList Try.prog ops Q (o :: rest) a w := by
  refine wpList_plain hg fun K hK' => ?_
  obtain ⟨v', w', hrun, r1, r2, r3⟩ := run_append_two w base o.type v n xs hown y m news hx hl h1 hbytes hbase
  unfold Oper.wp
  simp [execOp, hop, resolve, invoke, builtin, hs, hy, hrun, Result.andThen]
  exact hK' _ _ (hK v' w' r1 r2 r3)
def ncell (n : Nat) : Value := .int .i64 (n : Int)
/-- Lists of places that may be read. -/
structure NextAt (w : World) (g : Nat) (vs : List Value) (Nx : List (List Nat)) : Prop where
  row : w.heap[g]? = some (.cells vs.toArray 29 (0, 0))
  len : vs.length = Nx.length
  rows : ∀ (i : Nat) v L, vs[i]? = some v → Nx[i]? = some L → Row w v L.length (L.map ncell)
theorem NextAt.belowW {w w' : World} {g : Nat} {vs : List Value} {Nx : List (List Nat)} (h : NextAt w g vs Nx) (hb : Below w.heap.size w w') : NextAt w' g vs Nx :=
  ⟨(hb.block g (lt_of_heap h.row)).trans h.row, h.len, fun i v L hv hL => (h.rows i v L hv hL).belowW hb⟩
/-- .. that are owned, and part. -/
structure NxOwn (w : World) (base g : Nat) (vs : List Value) (Nx : List (List Nat)) : Prop where
  row : w.heap[g]? = some (.cells vs.toArray 29 (0, 0))
  low : base ≤ g
  len : vs.length = Nx.length
  own : ∀ (i : Nat) v L, vs[i]? = some v → Nx[i]? = some L → w.ownsRow base 3 1 v L.length (L.map ncell)
  apart : ∀ (i j : Nat) v u k, vs[i]? = some v → vs[j]? = some u → v.ownBlock = some k → u.ownBlock = some k → i = j
theorem NxOwn.next {w : World} {base g : Nat} {vs : List Value} {Nx : List (List Nat)} (h : NxOwn w base g vs Nx) : NextAt w g vs Nx := ⟨h.row, h.len, fun i v L hv hL => Row.of_owns (h.own i v L hv hL)⟩
theorem NxOwn.belowW {w w' : World} {base g : Nat} {vs : List Value} {Nx : List (List Nat)} (h : NxOwn w base g vs Nx) (hb : Below w.heap.size w w') : NxOwn w' base g vs Nx :=
  ⟨(hb.block g (lt_of_heap h.row)).trans h.row, h.low, h.len, fun i v L hv hL => owns_below (h.own i v L hv hL) hb (Nat.le_refl _), h.apart⟩
theorem NxOwn.put {w w' : World} {base g : Nat} {vs : List Value} {Nx : List (List Nat)} (h : NxOwn w base g vs Nx) {i q : Nat} {v v' : Value} {L : List Nat} (hv : vs[i]? = some v) (hL : Nx[i]? = some L)
    (ho : w'.ownsRow base 3 1 v' (L.length + 1) (L.map ncell ++ [.int .i64 (q : Int)])) (hg : w.grownBy w' v.ownBlock) (hk : ∀ k, v'.ownBlock = some k → v.ownBlock = some k ∨ w.heap.size ≤ k) :
    NxOwn (w'.setCell ⟨g, i, none⟩ v') base g (vs.set i v') (Nx.set i (L ++ [q])) := by
  have hvo := h.own i v L hv hL
  have hne : ¬ some g = v.ownBlock := fun e => owns_ne hvo h.row (by decide) e.symm
  have hrow' : w'.heap[g]? = some (.cells vs.toArray 29 (0, 0)) := (hg.block g (lt_of_heap h.row) hne).trans h.row
  have hset : (w'.setCell ⟨g, i, none⟩ v').heap[g]? = some (.cells (vs.set i v').toArray 29 (0, 0)) := by
    rw [heap_set_same _ hrow']
    simp
  have hoth : ∀ k, k ≠ g → (w'.setCell ⟨g, i, none⟩ v').heap[k]? = w'.heap[k]? := fun k hk => Below.heap_setCell _ _ _ _ hk
  refine ⟨hset, h.low, by simp [h.len], fun j u M hu hM => ?_, fun a b u z k hu hz h1 h2 => ?_⟩
  · by_cases hj : j = i
    · subst hj
      have hj : j < vs.length := (List.getElem?_eq_some_iff.1 hv).1
      have hj2 : j < Nx.length := (List.getElem?_eq_some_iff.1 hL).1
      rw [List.getElem?_set_self hj] at hu
      rw [List.getElem?_set_self hj2] at hM
      injection hu with hu
      injection hM with hM
      subst hu hM
      have e : (L ++ [q]).map ncell = L.map ncell ++ [.int .i64 (q : Int)] := by simp [ncell]
      rw [e, List.length_append]
      refine owns_stay ho fun k hk' => hoth k (fun e => ?_)
      subst e
      exact owns_ne ho hrow' (by decide) hk'
    · rw [List.getElem?_set_ne (fun e => hj e.symm)] at hu hM
      have huo := h.own j u M hu hM
      refine owns_stay huo fun k hk' => (hoth k (fun e => ?_)).trans (hg.block k (huo.lt k hk').2 (fun e => hj ?_))
      · subst e
        exact owns_ne huo h.row (by decide) hk'
      · exact h.apart j i u v k hu hv hk' e.symm
  · have key : ∀ a b u z, (vs.set i v')[a]? = some u → (vs.set i v')[b]? = some z → u.ownBlock = some k → z.ownBlock = some k → a = i → a = b := by
      intro a b u z hu hz h1 h2 ha
      subst ha
      refine Classical.byContradiction fun hb => ?_
      rw [List.getElem?_set_self (List.getElem?_eq_some_iff.1 hv).1] at hu
      rw [List.getElem?_set_ne hb] at hz
      injection hu with hu
      subst hu
      obtain ⟨M, hM⟩ : ∃ M, Nx[b]? = some M := ⟨_, List.getElem?_eq_getElem (by rw [← h.len]; exact (List.getElem?_eq_some_iff.1 hz).1)⟩
      have hzo := h.own b z M hz hM
      rcases hk k h1 with e | e
      · exact hb (h.apart a b v z k hv hz e h2)
      · have := (hzo.lt k h2).2
        omega
    by_cases ha : a = i
    · exact key a b u z hu hz h1 h2 ha
    · by_cases hb : b = i
      · exact (key b a z u hz hu h2 h1 hb).symm
      · rw [List.getElem?_set_ne (fun e => ha e.symm)] at hu
        rw [List.getElem?_set_ne (fun e => hb e.symm)] at hz
        exact h.apart a b u z k hu hz h1 h2
/-- What ways tells. -/
structure WaysIs (nums : List Int) (E : List (Int × Int)) (Nx : List (List Nat)) : Prop where
  len : Nx.length = nums.length
  just : ∀ (a : Nat) L, Nx[a]? = some L → ∀ b, b ∈ L ↔ ∃ x y, nums[a]? = some x ∧ nums[b]? = some y ∧ (x, y) ∈ E
  short : ∀ (a : Nat) L, Nx[a]? = some L → L.length ≤ E.length
theorem WaysIs.nil (nums : List Int) : WaysIs nums [] (List.replicate nums.length []) := by
  have key : ∀ (a : Nat) (L : List Nat), (List.replicate nums.length ([] : List Nat))[a]? = some L → L = [] := by
    intro a L h
    exact List.eq_of_mem_replicate (List.mem_of_getElem? h)
  refine ⟨by simp, fun a L h b => ?_, fun a L h => ?_⟩
  · rw [key a L h]; simp
  · rw [key a L h]; simp
theorem WaysIs.snoc {nums : List Int} {E : List (Int × Int)} {Nx : List (List Nat)} (h : WaysIs nums E Nx) (hr : nums.Pairwise (· < ·)) {p q : Int} {i j : Nat} {L : List Nat} (hi : nums[i]? = some p) (hj : nums[j]? = some q) (hL : Nx[i]? = some L) : WaysIs nums (E ++ [(p, q)]) (Nx.set i (L ++ [j])) := by
  have hlt := (List.getElem?_eq_some_iff.1 hL).1
  refine ⟨by simp [h.len], fun a M hM b => ?_, fun a M hM => ?_⟩
  · by_cases ha : a = i
    · subst ha
      rw [List.getElem?_set_self hlt] at hM
      injection hM with hM
      subst hM
      rw [List.mem_append, h.just a L hL b]
      constructor
      · rintro (⟨x, y, h1, h2, h3⟩ | e)
        · exact ⟨x, y, h1, h2, by simp [h3]⟩
        · simp at e
          subst e
          exact ⟨p, q, hi, hj, by simp⟩
      · rintro ⟨x, y, h1, h2, h3⟩
        rcases List.mem_append.1 h3 with h3 | h3
        · exact .inl ⟨x, y, h1, h2, h3⟩
        · simp at h3
          rw [h3.2] at h2
          exact .inr (by simp [rise_inj hr h2 hj])
    · rw [List.getElem?_set_ne (fun e => ha e.symm)] at hM
      rw [h.just a M hM b]
      constructor
      · rintro ⟨x, y, h1, h2, h3⟩
        exact ⟨x, y, h1, h2, by simp [h3]⟩
      · rintro ⟨x, y, h1, h2, h3⟩
        rcases List.mem_append.1 h3 with h3 | h3
        · exact ⟨x, y, h1, h2, h3⟩
        · simp at h3
          rw [h3.1] at h1
          exact absurd (rise_inj hr h1 hi) ha
  · rw [List.length_append]
    by_cases ha : a = i
    · subst ha
      rw [List.getElem?_set_self hlt] at hM
      injection hM with hM
      subst hM
      have := h.short a L hL
      simp
      omega
    · rw [List.getElem?_set_ne (fun e => ha e.symm)] at hM
      have := h.short a M hM
      omega
theorem Try.info29 : (Try.prog.info? 29).map (fun i => (i.zero, i.size, i.bytes)) = some (some (.slice none 0 0), 1, 24) := by kernel_rfl
theorem Try.info4 : (Try.prog.info? 4).map (fun i => (i.zero, i.size, i.bytes)) = some (some (.bool false), 1, 1) := by kernel_rfl
theorem made_one (v : Value) (n : Nat) : madeCells #[v] n = (List.replicate n v).toArray := by
  refine Array.ext (by simp [madeCells]) fun i h1 h2 => ?_
  simp [madeCells, Nat.mod_one]
theorem make44 (n : Nat) (hn : n ≤ 2000000) (w : World) : (Instr.makeSlice 44 (.int .i64 (n : Int)) (.int .i64 (n : Int))).run Try.prog w = .ok (.slice (some ⟨w.heap.size, 0, none⟩) n n) (w.alloc (.cells (List.replicate n (.slice none 0 0)).toArray 29)) := by
  obtain ⟨i, hi, hz⟩ := Option.map_eq_some_iff.1 Try.info29
  simp only [Prod.mk.injEq] at hz
  obtain ⟨hz, hs, hb⟩ := hz
  have h := run_make (P := Try.prog) w 44 29 i _ Try.underlying44 hi hz .i64 .i64 n n (by omega) (by omega) (by rw [hb]; omega) (by omega)
  rw [h, hs, Int.toNat_natCast, Nat.mul_one]
  rw [show (Value.slice none 0 0).cells = #[.slice none 0 0] from rfl, made_one]
theorem make46 (n : Nat) (hn : n ≤ 2000000) (w : World) : (Instr.makeSlice 46 (.int .i64 (n : Int)) (.int .i64 (n : Int))).run Try.prog w = .ok (.slice (some ⟨w.heap.size, 0, none⟩) n n) (w.alloc (.cells (List.replicate n (.bool false)).toArray 4)) := by
  obtain ⟨i, hi, hz⟩ := Option.map_eq_some_iff.1 Try.info4
  simp only [Prod.mk.injEq] at hz
  obtain ⟨hz, hs, hb⟩ := hz
  have h := run_make (P := Try.prog) w 46 4 i _ Try.underlying46 hi hz .i64 .i64 n n (by omega) (by omega) (by rw [hb]; omega) (by omega)
  rw [h, hs, Int.toNat_natCast, Nat.mul_one]
  rw [show (Value.bool false).cells = #[.bool false] from rfl, made_one]
theorem NxOwn.made (w : World) (n : Nat) : NxOwn (w.alloc (.cells (List.replicate n (.slice none 0 0)).toArray 29)) w.heap.size w.heap.size (List.replicate n (.slice none 0 0)) (List.replicate n []) := by
  refine ⟨heap_alloc_new _ _, Nat.le_refl _, by simp, fun i v L hv hL => ?_, fun i j v u k hv hu h1 h2 => ?_⟩
  · rw [List.getElem?_replicate] at hv hL
    split at hv
    · rename_i h
      rw [if_pos h] at hL
      injection hv with hv
      injection hL with hL
      subst hv hL
      exact ⟨rfl, .inl ⟨rfl, rfl⟩⟩
    · cases hv
  · rw [List.getElem?_replicate] at hv
    split at hv
    · injection hv with hv
      subst hv
      simp [Value.ownBlock] at h1
    · cases hv
theorem Below.setCell' {b : Nat} {w0 w : World} (h : Below b w0 w) (p : Addr) (u : Value) (hp : b ≤ p.block) : Below b w0 (w.setCell p u) :=
  ⟨h.os, h.tape, h.output, by have := h.size; simpa [World.setCell] using this, fun k hk => (Below.heap_setCell _ _ _ _ (fun e => by subst e; omega)).trans (h.block k hk)⟩
set_option maxHeartbeats 2000000 in
set_option maxRecDepth 100000 in
theorem ways_any {w : World} {vn : Value} {nums : List Int} (hnr : Row w vn nums.length (nums.map icell)) (hr : nums.Pairwise (· < ·)) (hnl : nums.length ≤ 2000000) {a : Option Addr} {c : Nat} {E : List (Int × Int)} (hE : EdgesAt w a E) (hin : ∀ e ∈ E, e.1 ∈ nums ∧ e.2 ∈ nums) :
    Calls Try.prog 19 #[vn, .slice a E.length c] w fun e w' => ∃ g vs Nx, e = .returned (.slice (some ⟨g, 0, none⟩) nums.length nums.length) ∧ NextAt w' g vs Nx ∧ WaysIs nums E Nx ∧ Below w.heap.size w w' := by
  have HE := hide hE
  have hlen := hE.len
  obtain ⟨n, hn⟩ : ∃ n, E.length = n := ⟨_, rfl⟩
  have HN := hide hn
  rw [hn] at hlen ⊢
  clear hn hE
  have HS : Hid (∀ W x, Below w.heap.size w W → Calls Try.prog 22 #[vn, .int .i64 x] W fun e w' => e = .returned (.tuple #[.int .i64 (place nums x : Nat), .bool (nums.contains x)]) ∧ ∃ q, w' = W.drewN q) := fun W x hb => search_any (hnr.belowW hb) hr (by omega) x
  obtain ⟨an, cn, rfl, _⟩ : ∃ an cn, vn = .slice an nums.length cn ∧ True := by obtain ⟨an, cn, e, _⟩ := hnr; exact ⟨an, cn, e, trivial⟩
  obtain ⟨m, hm⟩ : ∃ m, nums.length = m := ⟨_, rfl⟩
  have HM := hide hm
  have HR := hide hr
  have HIN := hide hin
  rw [hm] at hnl HS ⊢
  have hmk := make44 m hnl w
  have HN0 := hide (NxOwn.made w m)
  have HW0 : Hid (WaysIs nums [] (List.replicate m [])) := by rw [← hm]; exact WaysIs.nil nums
  have HB0 : Hid (Below w.heap.size w (w.alloc (.cells (List.replicate m (.slice none 0 0)).toArray 29))) := (Below.refl _ w).alloc (Nat.le_refl _) _
  clear hm hr hnr hin
  generalize hw0 : w.alloc (.cells (List.replicate m (.slice none 0 0)).toArray 29) = w0 at *
  clear hw0
  go_enter Try.func19, Try.ntmps19
  go_wp2
  go_loopw [17] (fun i wr => ∃ (k : Nat) (vs : List Value) (Nx : List (List Nat)), k ≤ n ∧ i = .int .i64 k ∧ NxOwn wr w.heap.size w.heap.size vs Nx ∧ WaysIs nums (E.take k) Nx ∧ Below w.heap.size w wr) (fun i _ => n - (intOf i).toNat)
  case atStart => exact ⟨0, _, _, by omega, rfl, HN0.out, HW0.out, HB0.out⟩
  case round =>
    obtain ⟨k, vs, Nx, hk, rfl, hNx, hWs, hB⟩ := hrel
    have HNx0 := hide hNx
    have HWs := hide hWs
    clear hNx hWs HN0 HW0 HB0
    by_cases hlt : k < n
    · obtain ⟨⟨p, q⟩, hx⟩ : ∃ x, E[k]? = some x := ⟨_, List.getElem?_eq_getElem (by rw [HN.out]; exact hlt)⟩
      obtain ⟨b, o, hab, hbl, hrg⟩ := HE.out.at' k _ hx
      subst hab
      have HRG : Hid (wr.rangeAt b (o + k * 2) [.int .i64 p, .int .i64 q]) := fun j v hv => (hB.cell (p := ⟨b, o + k * 2 + j, none⟩) hbl).trans (hrg j v hv)
      have HTK : Hid (E.take (k + 1) = E.take k ++ [(p, q)]) := take_snoc hx
      have HX := hide hx
      have HB := hide hB
      clear hB hrg hx 
      go_upto_region 5 with (refine wpList_load_mid rfl 24 _ rfl b (o + k * 2) rfl [.int .i64 p, .int .i64 q] _ HRG.out Try.underlying24 rfl Try.size24 ?_)
      generalize hx1 : wr.alloc _ = x1
      have hGx : x1.heap[wr.heap.size]? = some (.cells #[.int .i64 p, .int .i64 q] 24 (0, 0)) := by rw [← hx1]; exact heap_alloc_new _ _
      have hBx : Below wr.heap.size wr x1 := by rw [← hx1]; exact (Below.refl _ _).alloc (Nat.le_refl _) _
      have HBX : Hid (Below w.heap.size w x1) := HB.out.trans (hBx.mono HB.out.size)
      have HNx : Hid (NxOwn x1 w.heap.size w.heap.size vs Nx) := HNx0.out.belowW hBx
      have hgl : wr.heap.size < x1.heap.size := lt_of_heap hGx
      clear hx1 hBx HRG HB 
      generalize wr.heap.size = g at *
      have c0 : x1.cell? ⟨g, 0, none⟩ = some (.int .i64 p) := by rw [cell_row hGx]; rfl
      have c1 : x1.cell? ⟨g, 1, none⟩ = some (.int .i64 q) := by rw [cell_row hGx]; rfl
      have HBq : Hid (∀ q, Below w.heap.size w (x1.drewN q)) := fun q => ⟨HBX.out.os, HBX.out.tape, HBX.out.output, HBX.out.size, HBX.out.block⟩
      have hmem : (p, q) ∈ E := List.mem_of_getElem? HX.out
      obtain ⟨pi, hpi⟩ : ∃ i, place nums p = i := ⟨_, rfl⟩
      obtain ⟨qi, hqi⟩ : ∃ i, place nums q = i := ⟨_, rfl⟩
      obtain ⟨hp1, hp2⟩ := place_mem HR.out (HIN.out _ hmem).1
      obtain ⟨hq1, hq2⟩ := place_mem HR.out (HIN.out _ hmem).2
      simp only at hp1 hp2 hq1 hq2
      rw [hpi] at hp1 hp2
      rw [hqi] at hq1 hq2
      rw [HM.out] at hp2 hq2
      have HPI := hide hpi
      have HQI := hide hqi
      have HP1 := hide hp1
      have HQ1 := hide hq1
      clear hpi hqi hp1 hq1 hmem hGx HNx0
      go_upto_region 7 with (go_at_call 22; refine (HS.out _ _ (by first | exact HBX.out | exact HBq.out _)).mono ?_; rintro e w5 ⟨rfl, q5, rfl⟩; (first | rw [HPI.out] | rw [HQI.out]))
      generalize hx2 : World.drewN _ _ = x2
      have hd : Below x1.heap.size x1 x2 := by rw [← hx2]; exact below_drewN _ _ _
      have HBX2 : Hid (Below w.heap.size w x2) := HBX.out.trans (hd.mono HBX.out.size)
      have HN2 : Hid (NxOwn x2 w.heap.size w.heap.size vs Nx) := HNx.out.belowW hd
      clear hx2 hd c0 c1 HBX HBq HNx hgl HS
      obtain ⟨v, hv⟩ : ∃ v, vs[pi]? = some v := ⟨_, List.getElem?_eq_getElem (by rw [HN2.out.len, HWs.out.len, HM.out]; exact hp2)⟩
      obtain ⟨L, hL⟩ : ∃ L, Nx[pi]? = some L := ⟨_, List.getElem?_eq_getElem (by rw [HWs.out.len, HM.out]; exact hp2)⟩
      have hvo := HN2.out.own pi v L hv hL
      obtain ⟨av, cv, rfl⟩ := owns_len hvo
      have hcell : x2.cell? ⟨w.heap.size, pi, none⟩ = some (.slice av L.length cv) := by rw [cell_row HN2.out.row]; simpa using hv
      have hLl : L.length ≤ 1000000 := by
        have h1 := HWs.out.short pi L hL
        have h2 := List.length_take_le k E
        omega
      have HV := hide hv
      have HL := hide hL
      have HLl := hide hLl
      have HR2 := hide (row_new x2 3 [.int .i64 (qi : Int)] 1 (by omega))
      have HB2 : Hid (Below w.heap.size w (x2.alloc (.cells #[.int .i64 (qi : Int)] 3))) := HBX2.out.trans ((Below.refl _ x2).alloc HBX2.out.size _)
      have HN3 : Hid (NxOwn (x2.alloc (.cells #[.int .i64 (qi : Int)] 3)) w.heap.size w.heap.size vs Nx) := HN2.out.belowW ((Below.refl _ x2).alloc (Nat.le_refl _) _)
      have HO3 : Hid ((x2.alloc (.cells #[.int .i64 (qi : Int)] 3)).ownsRow w.heap.size 3 1 (.slice av L.length cv) L.length (L.map ncell)) := owns_below hvo ((Below.refl _ x2).alloc (Nat.le_refl _) _) (Nat.le_refl _)
      clear hv hL hvo HN2 hLl
      go_wp2_with (refine wpList_append_two rfl (.tmp 40) (.tmp 42) rfl w.heap.size _ _ _ _ 1 _ rfl rfl HO3.out HR2.out rfl (by simp [Value.oneCell']) (by have := HLl.out; omega) HB2.out.size ?_; intro v7 w7 ho7 hg7 hk7; obtain ⟨a7, c7, rfl⟩ := owns_len ho7; have HN7 : Hid (NxOwn (w7.setCell ⟨w.heap.size, pi, none⟩ (.slice a7 (L.length + 1) c7)) w.heap.size w.heap.size (vs.set pi (.slice a7 (L.length + 1) c7)) (Nx.set pi (L ++ [qi]))) := HN3.out.put HV.out HL.out ho7 hg7 hk7; have HB7 : Hid (Below w.heap.size w w7) := HB2.out.grown hg7 HB2.out.size (fun k hk => (HO3.out.lt k hk).1); have h7 : w7.heap[w.heap.size]? = some (.cells vs.toArray 29 (0, 0)) := (hg7.block _ (lt_of_heap HN3.out.row) (fun e => owns_ne HO3.out HN3.out.row (by decide) e.symm)).trans HN3.out.row; have h7c : w7.cell? ⟨w.heap.size, pi, none⟩ = some (.slice av L.length cv) := (by rw [cell_row h7]; simpa using HV.out); have h7f : w7.frozen? ⟨w.heap.size, pi, none⟩ = false := frozen_row h7; clear h7 ho7 hg7 hk7)
      go_roundw
      case rel =>
        refine ⟨k + 1, _, _, by omega, by go_num, HN7.out, ?_, Below.setCell' HB7.out _ _ (Nat.le_refl _)⟩
        rw [HTK.out]
        exact HWs.out.snoc HR.out HP1.out HQ1.out HL.out
      case measure => simp [intOf]; omega
    · have HG : Hid (WaysIs nums E Nx) := by
        have h := HWs.out
        rw [List.take_of_length_le (by rw [HN.out]; omega)] at h
        exact h
      have HB := hide hB
      clear hB
      go_wp2
      go_ret
      exact ⟨_, vs, Nx, rfl, HNx0.out.next, HG.out, HB.out⟩
end Go.Proofs.Ytaoghggbcbpapaa
