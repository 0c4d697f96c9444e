/- Undo: the third pass. -/
import Derived.Test.YtpjppolbkdnkaaaLose
import Derived.Deep.LoopGhost
namespace Go.Proofs.Ytpjppolbkdnkaaa
open Go.RowKit
set_option linter.unusedVariables false
set_option linter.unusedSimpArgs false

section
variable {w0 w w' : World} {R : Nat} {lg : Sv} {los wr : Value} {H : List Los} {O : List Ln} {K : List (Nat × Obj)}
/-- How many records of the log one may still meet, and one. -/
def left1 (L : List Ln) (y : Los) : Nat := L.countP (fun r => decide (r.lsn ≤ y.next)) + 1
def leftN (L : List Ln) (H : List Los) : Nat := (H.map (left1 L)).sum
theorem leftN_perm (L : List Ln) {H H' : List Los} (h : H.Perm H') : leftN L H = leftN L H' := (h.map _).sum_nat
theorem countP_lt {α : Type} (p q : α → Bool) : ∀ (L : List α) (r : α), r ∈ L → q r = true → p r = false → (∀ x ∈ L, p x = true → q x = true) → L.countP p < L.countP q
  | [], r, h, _, _, _ => by simp at h
  | x :: L, r, h, hq, hp, hi => by
    have hle : L.countP p ≤ L.countP q := List.countP_mono_left (fun z hz hz' => hi z (List.mem_cons_of_mem _ hz) hz')
    rcases List.mem_cons.1 h with rfl | h
    · rw [List.countP_cons, List.countP_cons, hq, hp]
      simp
      omega
    · have := countP_lt p q L r h hq hp (fun z hz => hi z (List.mem_cons_of_mem _ hz))
      rw [List.countP_cons, List.countP_cons]
      have h1 := hi x (List.mem_cons_self ..)
      cases hpx : p x with
      | false => simp; omega
      | true => rw [h1 hpx]; omega
/-- One step back after the other. -/
def Reach (L : List Ln) (bsOf : Ln → List Value) (popL : List Los → List Los) (fixL : List Los → List Los) (H0 : List Los) (O0 : List Ln) (K0 : List (Nat × Obj)) (H : List Los) (O : List Ln) (K : List (Nat × Obj)) : Prop :=
  ∀ P : List Los → List Ln → List (Nat × Obj) → Prop,
    (P H0 O0 K0) →
    (∀ (y : Los) (T : List Los) (O : List Ln) (K : List (Nat × Obj)) (H1 : List Los) (O1 : List Ln) (K1 : List (Nat × Obj)) (h : P (y :: T) O K) (hb : BackTo L bsOf popL fixL y T O K H1 O1 K1), P H1 O1 K1) →
    P H O K
theorem Reach.refl {L : List Ln} {bsOf : Ln → List Value} {popL : List Los → List Los} {fixL : List Los → List Los} {H0 : List Los} {O0 : List Ln} {K0 : List (Nat × Obj)}  : Reach L bsOf popL fixL H0 O0 K0 H0 O0 K0 := fun P hP1 hP2 => hP1 
theorem Reach.step {L : List Ln} {bsOf : Ln → List Value} {popL : List Los → List Los} {fixL : List Los → List Los} {H0 : List Los} {O0 : List Ln} {K0 : List (Nat × Obj)} (y : Los) (T : List Los) (O : List Ln) (K : List (Nat × Obj)) (H1 : List Los) (O1 : List Ln) (K1 : List (Nat × Obj)) (h : Reach L bsOf popL fixL H0 O0 K0 (y :: T) O K) (hb : BackTo L bsOf popL fixL y T O K H1 O1 K1) : Reach L bsOf popL fixL H0 O0 K0 H1 O1 K1 := fun P hP1 hP2 => hP2 y T O K H1 O1 K1 (h P hP1 hP2) hb
theorem Reach.ind {L : List Ln} {bsOf : Ln → List Value} {popL : List Los → List Los} {fixL : List Los → List Los} {H0 : List Los} {O0 : List Ln} {K0 : List (Nat × Obj)} {motive : (H : List Los) → (O : List Ln) → (K : List (Nat × Obj)) → Reach L bsOf popL fixL H0 O0 K0 H O K → Prop}
    (refl : motive H0 O0 K0 (.refl))
    (step : ∀ (y : Los) (T : List Los) (O : List Ln) (K : List (Nat × Obj)) (H1 : List Los) (O1 : List Ln) (K1 : List (Nat × Obj)) (h : Reach L bsOf popL fixL H0 O0 K0 (y :: T) O K) (hb : BackTo L bsOf popL fixL y T O K H1 O1 K1) (ih : motive (y :: T) O K h), motive H1 O1 K1 (.step y T O K H1 O1 K1 h hb))
    {H : List Los} {O : List Ln} {K : List (Nat × Obj)} (h : Reach L bsOf popL fixL H0 O0 K0 H O K) : motive H O K h := by
  obtain ⟨_, hm⟩ := h (fun H O K => ∃ c : Reach L bsOf popL fixL H0 O0 K0 H O K, motive H O K c)
    ⟨.refl, refl⟩
    (fun y T O K H1 O1 K1 ⟨h, mh⟩ hb => ⟨.step y T O K H1 O1 K1 h hb, step y T O K H1 O1 K1 h hb mh⟩)
  exact hm
theorem BackTo.less {L : List Ln} {bsOf : Ln → List Value} {popL fixL : List Los → List Los} (popP : ∀ y T, (popL (y :: T)).Perm T) (fixP : ∀ H, (fixL H).Perm H) {y : Los} {T : List Los} {H1 : List Los} {O1 : List Ln} {K1 : List (Nat × Obj)}
    (h : BackTo L bsOf popL fixL y T O K H1 O1 K1) : leftN L H1 + 1 ≤ leftN L (y :: T) ∧ O1.length + 2 * leftN L H1 ≤ O.length + 2 * leftN L (y :: T) ∧ H1.length ≤ T.length + 1 := by
  have e1 : leftN L (y :: T) = left1 L y + leftN L T := by simp [leftN]
  have e2 : 1 ≤ left1 L y := by unfold left1; omega
  cases h using BackTo.ind with
  | no h => rw [leftN_perm L (popP y T), e1, (popP y T).length_eq]; refine ⟨by omega, by simp; omega, by omega⟩
  | stop r hr h hn O2 K2 hc => rw [leftN_perm L (popP y T), e1, (popP y T).length_eq]; have := hc.len; refine ⟨by omega, by simp; omega, by omega⟩
  | on r hr h hn _ _ hc =>
    have hlt : left1 L ⟨y.id, r.goesOn⟩ + 1 ≤ left1 L y := by
      unfold left1
      have := countP_lt (fun x : Ln => decide (x.lsn ≤ r.goesOn)) (fun x : Ln => decide (x.lsn ≤ y.next)) L r hr (by simp; omega) (by simp; omega) (fun x _ hx => by simp at hx ⊢; omega)
      simp only
      omega
    have e3 : leftN L (⟨y.id, r.goesOn⟩ :: T) = left1 L ⟨y.id, r.goesOn⟩ + leftN L T := by simp [leftN]
    have := hc.len
    rw [leftN_perm L (fixP _), e1, e3, (fixP _).length_eq]
    refine ⟨by omega, by omega, by simp⟩
set_option maxHeartbeats 4000000 in
set_option maxRecDepth 100000 in
theorem pass2_any {N : Nat} (hp : Hp w0 R lg N) (x : UndoIs w0 w R lg los wr H O K) (L : List Ln) (hL : LogAt w0 lg L) (hR : Rises L) (bsOf : Ln → List Value) (hBy : ∀ r ∈ L, r.kind = 2 → Byt w0 r.sb (bsOf r)) (hN : H.length ≤ N) (hO : O.length + 2 * leftN L H ≤ 90000) :
    Calls Try.prog 20 #[.pointer (some ⟨R, 0, none⟩), .int .i64 2] w fun e w' => e = .returned (.tuple #[]) ∧ ∃ los' wr' O' K', UndoIs w0 w' R lg los' wr' [] O' K' ∧ Reach L bsOf hp.popL hp.fixL H O K [] O' K' := by
  have HX := hide x
  have HA := hide (And.intro hL (And.intro hR hBy))
  clear x hL hR hBy
  go_enter Try.func20, Try.ntmps20
  go_wp2
  refine wp_scope_fwd 1 ?_
  go_wp2
  go_step3
  refine ⟨_, rfl, ?_⟩
  go_wp2_with fail
  go_loopg [] (leftN L H) (fun k wx => ∃ (los' wr' : Value) (H' : List Los) (O' : List Ln) (K' : List (Nat × Obj)), UndoIs w0 wx R lg los' wr' H' O' K' ∧ Reach L bsOf hp.popL hp.fixL H O K H' O' K' ∧ leftN L H' ≤ k ∧ H'.length ≤ N ∧ O'.length + 2 * leftN L H' ≤ 90000)
  case atStart => exact ⟨los, wr, H, O, K, HX.out, Reach.refl, Nat.le_refl _, hN, hO⟩
  case round =>
    obtain ⟨los', wr', H', O', K', hX, hRe, hk, hN', hO'⟩ := hrel
    cases H' with
    | nil =>
      obtain ⟨ao, co, hlos⟩ : ∃ ao co, los' = .slice ao 0 co := by
        rcases hX.heap.2 with ⟨h, _⟩ | ⟨g, cap, cur, h, _⟩
        · exact ⟨none, 0, h⟩
        · exact ⟨_, _, h⟩
      subst hlos
      have c7 := hX.c7
      have HX2 := hide hX
      have HRe := hide hRe
      clear hX hRe
      go_wp2
      unfold Exit.jumps
      go_end0
      exact ⟨rfl, _, _, _, _, HX2.out, HRe.out⟩
    | cons y T =>
      obtain ⟨g, c, cur, hlos, _⟩ := own_some hX.heap (by simp)
      subst hlos
      have c7 := hX.c7
      obtain ⟨n, hn⟩ : ∃ n, (y :: T).length = n := ⟨_, rfl⟩
      rw [hn] at c7
      have hn0 : 0 < n := by rw [← hn]; simp
      have hTN : T.length < N := by simp at hN'; omega
      have HBK := hide (back_any hX L HA.out.1 HA.out.2.1 bsOf HA.out.2.2 (by omega) hp.popL hp.fixL (hp.pop y T hTN) (fun v => hp.fix ⟨y.id, v⟩ T hTN))
      have HRe := hide (And.intro hRe (And.intro hk hO'))
      clear hX hRe hn hk hO' hN'
      go_wp2_with (go_at_call 42; refine HBK.out.mono ?_; rintro e w2 ⟨rfl, los2, wr2, H2, O2, K2, hX2, hB2⟩; have HX2 := hide hX2; have HB2 := hide hB2; clear hX2 hB2)
      have hls := HB2.out.less hp.popP hp.fixP
      obtain ⟨hRe, hk, hO'⟩ := HRe.out
      go_roundg (leftN L H2)
      case rel => exact ⟨los2, wr2, H2, O2, K2, HX2.out, Reach.step y T _ _ _ _ _ hRe HB2.out, Nat.le_refl _, by omega, by omega⟩
      case measure => omega
theorem leftN_le (L : List Ln) : ∀ H : List Los, leftN L H ≤ H.length * (L.length + 1)
  | [] => by simp [leftN]
  | y :: T => by
    have h1 := leftN_le L T
    have h2 : left1 L y ≤ L.length + 1 := by unfold left1; have := List.countP_le_length (p := fun r : Ln => decide (r.lsn ≤ y.next)) (l := L); omega
    have e1 : leftN L (y :: T) = left1 L y + leftN L T := by simp [leftN]
    rw [e1, List.length_cons, Nat.add_mul]
    omega
set_option maxHeartbeats 4000000 in
set_option maxRecDepth 100000 in
theorem undo_any {N : Nat} (hp : Hp w w.heap.size lg N) (L : List Ln) (hL : LogAt w lg L) (hR : Rises L) (bsOf : Ln → List Value) (hBy : ∀ r ∈ L, r.kind = 2 → Byt w r.sb (bsOf r)) (a : Option Addr) (c : Nat) (ts : List Tx) (hT : TxsAt w a ts) (hN : ts.length ≤ N) (hN2 : N ≤ 100) (hLl : L.length ≤ 300) :
    Calls Try.prog 19 #[.slice lg.a lg.n lg.c, .slice a ts.length c] w fun e w' => ∃ v O' K', e = .returned v ∧ w'.ownsRow w.heap.size 32 11 v O'.length (recRow O') ∧ Below w.heap.size w w' ∧ (∀ p ∈ K', w'.heap[p.1]? = some p.2 ∧ v.ownBlock ≠ some p.1) ∧ Reach L bsOf hp.popL hp.fixL (loseN hp.pushL ([], []) ts).1 (loseN hp.pushL ([], []) ts).2 [] [] O' K' := by
  have hlen := loseN_len hp.pushL hp.pushP ts ([], [])
  simp only [List.length_nil, Nat.zero_add] at hlen
  have hlf := leftN_le L (loseN hp.pushL ([], []) ts).1
  have hlf2 : (loseN hp.pushL ([], []) ts).1.length * (L.length + 1) ≤ 100 * 301 := Nat.mul_le_mul (by omega) (by omega)
  obtain ⟨S, hS⟩ : ∃ S, loseN hp.pushL ([], []) ts = S := ⟨_, rfl⟩
  rw [hS] at hlen hlf hlf2 ⊢
  have HPS := hide (fun W los wr K (h : UndoIs w W w.heap.size lg los wr S.1 S.2 K) => pass2_any hp h L hL hR bsOf hBy (by omega) (by omega))
  have HT := hide hT
  have HS := hide hS
  clear hL hR hBy hT hlen hlf hlf2 hS
  go_enter Try.func19, Try.ntmps19
  have HG : Hid (∀ o : Obj, (w.alloc o).heap[w.heap.size]? = some o) := fun o => World.alloc_heap_new w o
  go_upto_region 2 with (refine wpList_store_row (by rfl) 72 _ _ (by rfl) w.heap.size #[.slice lg.a lg.n lg.c, .map none, .map none, .int .i64 0, .nilFunc, .map none, .slice none 0 0, .slice none 0 0, .slice none 0 0] (by rfl) (by rfl) 72 _ (HG.out _) (by kernel_rfl) (by rfl) (by simp [Value.oneCell']) ?_)
  generalize hx1 : World.setRow _ _ _ = x1
  have hB1 : Below w.heap.size w x1 := by rw [← hx1]; exact (((Off.refl [] w).alloc _).setRow _ _ (.inr (Nat.le_refl _))).below (Nat.le_refl _) (by simp)
  have X1 : UndoIs w x1 w.heap.size lg (.slice none 0 0) (.slice none 0 0) [] [] [] := {
    head := by rw [← hx1]; exact setRow_heap _ _ _ _ _ _ (HG.out _)
    heap := ⟨rfl, .inl ⟨rfl, rfl⟩⟩
    rows := ⟨rfl, .inl ⟨rfl, rfl⟩⟩
    below := hB1
    r0 := Nat.le_refl _
    n1 := by simp [Value.ownBlock]
    n2 := by simp [Value.ownBlock]
    n3 := by simp [Value.ownBlock]
    keep := by simp }
  have HLO := hide (lose_any hp X1 a c ts HT.out hN (by omega))
  rw [HS.out] at HLO
  clear hx1 X1 hB1
  go_wp2_with (first
    | (go_at_call 37; refine HLO.out.mono ?_; rintro e x2 ⟨rfl, los2, wr2, hX2⟩; have HX2 := hide hX2; clear hX2)
    | (go_at_call 20; refine (HPS.out _ _ _ _ HX2.out).mono ?_; rintro e x3 ⟨rfl, los3, wr3, O3, K3, hX3, hR3⟩
       obtain ⟨ao, mo, co, hwr⟩ := own_form (owns_zero hX3.rows)
       subst hwr
       have c8 := hX3.c8
       have HX3 := hide hX3
       have HR3 := hide hR3
       clear hX3 hR3))
  go_ret
  exact ⟨_, O3, K3, rfl, HX3.out.rows, HX3.out.below, fun p hp' => ⟨(HX3.out.keep p hp').1, (HX3.out.keep p hp').2.2.2⟩, HR3.out⟩
end
end Go.Proofs.Ytpjppolbkdnkaaa
