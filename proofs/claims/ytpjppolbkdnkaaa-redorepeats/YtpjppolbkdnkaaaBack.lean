/- back: the first of the losers goes one record back. -/
import Derived.Test.YtpjppolbkdnkaaaComp
namespace Go.Proofs.Ytpjppolbkdnkaaa
open Go.RowKit
set_option linter.unusedVariables false
set_option linter.unusedSimpArgs false

section
variable {w0 w w' : World} {R : Nat} {lg : Sv} {los wr : Value} {H : List Los} {O : List Ln} {K : List (Nat × Obj)}
/-- The heap's row holds other losers. -/
theorem UndoIs.reRow {g c : Nat} {H' : List Los} (x : UndoIs w0 w R lg (.slice (some ⟨g, 0, none⟩) H.length c) wr H O K) (hO : Off [g] w w') (cur' : Array Value) (hg : w'.heap[g]? = some (.cells cur' 110 (0, 0)))
    (hsz : cur'.size = c * 2) (hl : H'.length = H.length) (hc : H.length ≤ c) (hcm : c ≤ maxLen) (ht : cur'.toList.take (H'.length * 2) = losRow H') : UndoIs w0 w' R lg (.slice (some ⟨g, 0, none⟩) H'.length c) wr H' O K := by
  have hgR : g ≠ R := fun e => x.n1 (by rw [← e]; rfl)
  have hgW : wr.ownBlock ≠ some g := x.n3 g rfl
  have hlr : (losRow H').length = H'.length * 2 := by
    unfold losRow
    rw [List.flatMap_def, flat_length 2 _ (fun y hy => by obtain ⟨z, _, rfl⟩ := List.mem_map.1 hy; rfl), List.length_map]
  refine { head := by rw [hl]; exact (hO.block R x.lt (by simpa using Ne.symm hgR)).trans x.head, heap := ⟨hlr, .inr ⟨g, c, cur', rfl, (x.heap.lt g rfl).1, hg, by omega, hcm, hsz, ht⟩⟩, rows := ?_, below := ?_, r0 := x.r0, n1 := ?_, n2 := x.n2, n3 := ?_, keep := ?_ }
  · exact owns_of_blockB x.rows (fun k hk => hO.block k (x.rows.lt k hk).2 (fun e => by simp at e; rw [e] at hk; exact hgW hk))
  · refine x.below.trans (hO.below x.below.size (fun k hk => ?_))
    simp at hk
    rw [hk]
    exact (x.heap.lt g rfl).1
  · intro e
    exact x.n1 e
  · intro k hk
    exact x.n3 k hk
  · intro p hp
    obtain ⟨k1, k2, k3, k4⟩ := x.keep p hp
    refine ⟨(hO.block p.1 (Array.getElem?_eq_some_iff.1 k1).1 (fun e => ?_)).trans k1, k2, k3, k4⟩
    simp at e
    exact k3 (by rw [e]; rfl)
/-- The first's place is another. -/
theorem UndoIs.setFirst {g c : Nat} {y : Los} {T : List Los} (x : UndoIs w0 w R lg (.slice (some ⟨g, 0, none⟩) (y :: T).length c) wr (y :: T) O K) (v : Int) :
    UndoIs w0 (w.setCell ⟨g, 1, none⟩ (.int .i64 v)) R lg (.slice (some ⟨g, 0, none⟩) (Los.mk y.id v :: T).length c) wr (⟨y.id, v⟩ :: T) O K ∧ w.frozen? ⟨g, 1, none⟩ = false := by
  obtain ⟨g', c', cur, e, h1, h2, h3, h4, h5, h6⟩ := own_some x.heap (by simp)
  injection e with q1 q2 q3
  injection q1 with q1
  injection q1 with q1 q4
  subst q1; subst q3
  have hlen : 2 ≤ cur.size := by rw [h5]; simp only [List.length_cons] at h3; omega
  refine ⟨x.reRow ((Off.refl [g] w).setCell _ _ (.inl (by simp))) (cur.setIfInBounds 1 (.int .i64 v)) (heap_setCell_same w g 1 cur 110 _ h2) (by simpa using h5) rfl h3 h4 ?_, frozen_of_row _ _ _ _ _ h2⟩
  rw [Array.toList_setIfInBounds, List.take_set, show (Los.mk y.id v :: T).length = (y :: T).length from rfl, h6]
  rfl
theorem find_yes (R : Nat) (la : Option Addr) (cap : Nat) (L : List Ln) (t : Int) (h0 : w.cell? ⟨R, 0, none⟩ = some (.slice la L.length cap)) (hL : LinesAt w la L) (hR : Rises L) (i : Nat) (r : Ln) (hr : L[i]? = some r) (ht : r.lsn = t) :
    Calls Try.prog 54 #[.pointer (some ⟨R, 0, none⟩), .int .i64 t] w fun e w' => e = .returned (.tuple #[.int .i64 (i : Int), .bool true]) ∧ Below w.heap.size w w' := by
  refine (find_any w R la cap L t h0 hL hR).mono ?_
  rintro e w' ⟨pos, fnd, rfl, h1, h2, h3, h4⟩
  have hil := (List.getElem?_eq_some_iff.1 hr).1
  have hp : pos = i := by
    have a1 : ¬ i < pos := fun h => by have := (h2 i r hr).2 h; omega
    by_cases e : pos < i
    · exfalso
      obtain ⟨z, hz⟩ : ∃ z, L[pos]? = some z := ⟨_, List.getElem?_eq_getElem (by omega)⟩
      have := hR pos i z r hz hr e
      have := (h2 pos z hz).1 (by omega)
      omega
    · omega
  subst hp
  have hf : fnd = true := h3.2 ⟨r, hr, ht⟩
  subst hf
  exact ⟨rfl, h4⟩
theorem find_no (R : Nat) (la : Option Addr) (cap : Nat) (L : List Ln) (t : Int) (h0 : w.cell? ⟨R, 0, none⟩ = some (.slice la L.length cap)) (hL : LinesAt w la L) (hR : Rises L) (hno : ∀ r ∈ L, r.lsn ≠ t) :
    Calls Try.prog 54 #[.pointer (some ⟨R, 0, none⟩), .int .i64 t] w fun e w' => (∃ pos : Nat, e = .returned (.tuple #[.int .i64 (pos : Int), .bool false])) ∧ Below w.heap.size w w' := by
  refine (find_any w R la cap L t h0 hL hR).mono ?_
  rintro e w' ⟨pos, fnd, rfl, h1, h2, h3, h4⟩
  have hf : fnd = false := by
    cases hf : fnd with
    | false => rfl
    | true =>
      obtain ⟨z, hz, hz'⟩ := h3.1 hf
      exact absurd hz' (hno z (List.mem_of_getElem? hz))
  subst hf
  exact ⟨⟨pos, rfl⟩, h4⟩
def BackTo (L : List Ln) (bsOf : Ln → List Value) (popL : List Los → List Los) (fixL : List Los → List Los) (y : Los) (T : List Los) (O : List Ln) (K : List (Nat × Obj)) (H' : List Los) (O' : List Ln) (K' : List (Nat × Obj)) : Prop :=
  ∀ P : List Los → List Ln → List (Nat × Obj) → Prop,
    (∀ (h : ∀ r ∈ L, r.lsn ≠ y.next), P (popL (y :: T)) (O ++ [endLn y.id]) K) →
    (∀ (r : Ln) (hr : r ∈ L) (h : r.lsn = y.next) (hn : r.goesOn ≤ 0 ∨ y.next ≤ r.goesOn) (O1 : List Ln) (K1 : List (Nat × Obj)) (hc : Comp r (bsOf r) O K O1 K1), P (popL (y :: T)) (O1 ++ [endLn y.id]) K1) →
    (∀ (r : Ln) (hr : r ∈ L) (h : r.lsn = y.next) (hn : 0 < r.goesOn ∧ r.goesOn < y.next) (O1 : List Ln) (K1 : List (Nat × Obj)) (hc : Comp r (bsOf r) O K O1 K1), P (fixL (⟨y.id, r.goesOn⟩ :: T)) O1 K1) →
    P H' O' K'
theorem BackTo.no {L : List Ln} {bsOf : Ln → List Value} {popL : List Los → List Los} {fixL : List Los → List Los} {y : Los} {T : List Los} {O : List Ln} {K : List (Nat × Obj)} (h : ∀ r ∈ L, r.lsn ≠ y.next) : BackTo L bsOf popL fixL y T O K (popL (y :: T)) (O ++ [endLn y.id]) K := fun P hP1 hP2 hP3 => hP1 h
theorem BackTo.stop {L : List Ln} {bsOf : Ln → List Value} {popL : List Los → List Los} {fixL : List Los → List Los} {y : Los} {T : List Los} {O : List Ln} {K : List (Nat × Obj)} (r : Ln) (hr : r ∈ L) (h : r.lsn = y.next) (hn : r.goesOn ≤ 0 ∨ y.next ≤ r.goesOn) (O1 : List Ln) (K1 : List (Nat × Obj)) (hc : Comp r (bsOf r) O K O1 K1) : BackTo L bsOf popL fixL y T O K (popL (y :: T)) (O1 ++ [endLn y.id]) K1 := fun P hP1 hP2 hP3 => hP2 r hr h hn O1 K1 hc
theorem BackTo.on {L : List Ln} {bsOf : Ln → List Value} {popL : List Los → List Los} {fixL : List Los → List Los} {y : Los} {T : List Los} {O : List Ln} {K : List (Nat × Obj)} (r : Ln) (hr : r ∈ L) (h : r.lsn = y.next) (hn : 0 < r.goesOn ∧ r.goesOn < y.next) (O1 : List Ln) (K1 : List (Nat × Obj)) (hc : Comp r (bsOf r) O K O1 K1) : BackTo L bsOf popL fixL y T O K (fixL (⟨y.id, r.goesOn⟩ :: T)) O1 K1 := fun P hP1 hP2 hP3 => hP3 r hr h hn O1 K1 hc
theorem BackTo.ind {L : List Ln} {bsOf : Ln → List Value} {popL : List Los → List Los} {fixL : List Los → List Los} {y : Los} {T : List Los} {O : List Ln} {K : List (Nat × Obj)} {motive : (H' : List Los) → (O' : List Ln) → (K' : List (Nat × Obj)) → BackTo L bsOf popL fixL y T O K H' O' K' → Prop}
    (no : ∀ (h : ∀ r ∈ L, r.lsn ≠ y.next), motive (popL (y :: T)) (O ++ [endLn y.id]) K (.no h))
    (stop : ∀ (r : Ln) (hr : r ∈ L) (h : r.lsn = y.next) (hn : r.goesOn ≤ 0 ∨ y.next ≤ r.goesOn) (O1 : List Ln) (K1 : List (Nat × Obj)) (hc : Comp r (bsOf r) O K O1 K1), motive (popL (y :: T)) (O1 ++ [endLn y.id]) K1 (.stop r hr h hn O1 K1 hc))
    (on : ∀ (r : Ln) (hr : r ∈ L) (h : r.lsn = y.next) (hn : 0 < r.goesOn ∧ r.goesOn < y.next) (O1 : List Ln) (K1 : List (Nat × Obj)) (hc : Comp r (bsOf r) O K O1 K1), motive (fixL (⟨y.id, r.goesOn⟩ :: T)) O1 K1 (.on r hr h hn O1 K1 hc))
    {H' : List Los} {O' : List Ln} {K' : List (Nat × Obj)} (h : BackTo L bsOf popL fixL y T O K H' O' K') : motive H' O' K' h := by
  obtain ⟨_, hm⟩ := h (fun H' O' K' => ∃ c : BackTo L bsOf popL fixL y T O K H' O' K', motive H' O' K' c)
    (fun h => ⟨.no h, no h⟩)
    (fun r hr h hn O1 K1 hc => ⟨.stop r hr h hn O1 K1 hc, stop r hr h hn O1 K1 hc⟩)
    (fun r hr h hn O1 K1 hc => ⟨.on r hr h hn O1 K1 hc, on r hr h hn O1 K1 hc⟩)
  exact hm
theorem Comp.len {y : Ln} {bs : List Value} {O1 : List Ln} {K1 : List (Nat × Obj)} (h : Comp y bs O K O1 K1) : O1.length ≤ O.length + 1 := by
  cases h using Comp.ind with
  | upd => simp
  | not => omega
def PopIs (w0 : World) (R : Nat) (lg : Sv) (H : List Los) (H' : List Los) : Prop := ∀ W los wr O K, UndoIs w0 W R lg los wr H O K → Calls Try.prog 60 #[.iface 108 (.pointer (some ⟨R, 7, none⟩))] W fun e w' => (∃ v, e = .returned v) ∧ ∃ los', UndoIs w0 w' R lg los' wr H' O K
def FixIs (w0 : World) (R : Nat) (lg : Sv) (H : List Los) (H' : List Los) : Prop := ∀ W los wr O K, UndoIs w0 W R lg los wr H O K → Calls Try.prog 61 #[.iface 108 (.pointer (some ⟨R, 7, none⟩)), .int .i64 0] W fun e w' => e = .returned (.tuple #[]) ∧ ∃ los', UndoIs w0 w' R lg los' wr H' O K
set_option maxHeartbeats 4000000 in
set_option maxRecDepth 100000 in
theorem back_any {y : Los} {T : List Los} (x : UndoIs w0 w R lg los wr (y :: T) O K) (L : List Ln) (hL : LogAt w0 lg L) (hR : Rises L) (bsOf : Ln → List Value) (hBy : ∀ r ∈ L, r.kind = 2 → Byt w0 r.sb (bsOf r)) (hO : O.length ≤ 90000) (popL fixL : List Los → List Los)
    (HPop : PopIs w0 R lg (y :: T) (popL (y :: T))) (HFix : ∀ v, FixIs w0 R lg (⟨y.id, v⟩ :: T) (fixL (⟨y.id, v⟩ :: T))) :
    Calls Try.prog 42 #[.pointer (some ⟨R, 0, none⟩)] w fun e w' => e = .returned (.tuple #[]) ∧ ∃ los' wr' H' O' K', UndoIs w0 w' R lg los' wr' H' O' K' ∧ BackTo L bsOf popL fixL y T O K H' O' K' := by
  obtain ⟨g, c, cur, hlos, _⟩ := own_some x.heap (by simp)
  subst hlos
  have HX := hide x
  have c7 := x.c7
  have d1 := (los_cells x.heap 0 y rfl).2
  rw [Nat.zero_mul, Nat.zero_add] at d1
  obtain ⟨n, hn⟩ : ∃ n, (y :: T).length = n := ⟨_, rfl⟩
  have hn0 : 0 < n := by rw [← hn]; simp
  have hn0' : (0 : Int) < (n : Int) := by omega
  have hci : ∀ W wr O K, UndoIs w0 W R lg (.slice (some ⟨g, 0, none⟩) (y :: T).length c) wr (y :: T) O K → W.cell? ⟨g, 0, none⟩ = some (.int .i64 y.id) ∧ W.cell? ⟨g, 1, none⟩ = some (.int .i64 y.next) := fun W wr O K hh => by
    have h1 := los_cells hh.heap 0 y rfl
    rw [Nat.zero_mul, Nat.zero_add] at h1
    exact h1
  have HCI := hide hci
  have HPOP := hide HPop
  have HFIX := hide HFix
  have hLw := hL.lines.below x.below
  have hc0 : w.cell? ⟨R, 0, none⟩ = some (.slice lg.a L.length lg.c) := by rw [← hL.n]; exact x.c0
  have HN := hide hn
  rw [hn] at c7
  clear hci
  by_cases hfnd : ∃ (i : Nat) (r : Ln), L[i]? = some r ∧ r.lsn = y.next
  · obtain ⟨i, r, hr, hrt⟩ := hfnd
    have HF := hide (find_yes R lg.a lg.c L y.next hc0 hLw hR i r hr hrt)
    have hil : i < lg.n := by rw [hL.n]; exact (List.getElem?_eq_some_iff.1 hr).1
    obtain ⟨hok, b, o, hab, hbl, hrg⟩ := hL.lines.2 i r hr
    have HRG : Hid (∀ W, Below w0.heap.size w0 W → W.rangeAt b (o + i * 12 + 1) (recCells r)) := fun W hW j v hv => by
      have := hrg (j + 1) v (by unfold lnCells; rw [List.getElem?_cons_succ]; exact hv)
      rw [show o + i * 12 + (j + 1) = o + i * 12 + 1 + j by omega] at this
      exact (hW.cell (p := ⟨b, o + i * 12 + 1 + j, none⟩) hbl).trans this
    have hrm := List.mem_of_getElem? hr
    have HB := hide (hBy r hrm)
    have HM := hide (And.intro hrm hrt)
    have hlga := hab
    obtain ⟨nx, hnx⟩ : ∃ nx, r.goesOn = nx := ⟨_, rfl⟩
    have HNX := hide hnx
    have hlt64 : (i : Int) < (lg.n : Int) := by omega
    clear x hL hR hBy HPop HFix hLw hc0 hr hrt hab hrg hrm hnx hok
    by_cases hle : nx ≤ 0
    · have hd : decide (nx ≤ 0) = true := decide_eq_true hle
      go_enter Try.func42, Try.ntmps42
      go_wp2_with (first
        | (go_at_call 54; refine HF.out.mono ?_; rintro e w2 ⟨rfl, hb2⟩; have HX2 := hide (HX.out.stayD hb2); have c0' := HX2.out.c0; rw [hlga] at c0'; have hrg' := hide (HRG.out w2 HX2.out.below); clear hb2 c7 d1)
        | (refine wpList_load_mid (by rfl) 32 _ (by rfl) b (o + i * 12 + 1) (by rfl) _ _ hrg'.out Try.underlying32 rfl Try.size32n ?_)
        | (go_at_call 59; refine (compensate_any HX2.out r (bsOf r) (fun h => (HB.out h).below HX2.out.below) (by omega)).mono ?_; rw [HNX.out]; rintro e w3 ⟨rfl, wr3, O3, K3, hX3, hC3⟩; have HX3 := hide hX3; have HC3 := hide hC3; have d0' := (HCI.out _ _ _ _ hX3).1; have d1' := (HCI.out _ _ _ _ hX3).2; have hO3 := hC3.len; clear hX3 hC3 c0')
        | (go_at_call 50; refine (end_any HX3.out y.id (by omega)).mono ?_; rintro e w4 ⟨rfl, wr4, hX4⟩; have HX4 := hide hX4; clear hX4 d0' d1')
        | (go_at_call 60; refine (HPOP.out _ _ _ _ _ HX4.out).mono ?_; rintro e w5 ⟨⟨v, rfl⟩, los5, hX5⟩; have HX5 := hide hX5; clear hX5))
      refine bodyPost_ret (results_none rfl _ _ _) rfl ?_
      exact ⟨rfl, _, _, _, _, _, HX5.out, BackTo.stop r HM.out.1 HM.out.2 (by rw [HNX.out]; omega) _ _ HC3.out⟩
    · have hd : decide (nx ≤ 0) = false := decide_eq_false hle
      by_cases hge : nx ≥ y.next
      · have hd2 : decide (nx ≥ y.next) = true := decide_eq_true hge
        go_enter Try.func42, Try.ntmps42
        go_wp2_with (first
          | (go_at_call 54; refine HF.out.mono ?_; rintro e w2 ⟨rfl, hb2⟩; have HX2 := hide (HX.out.stayD hb2); have c0' := HX2.out.c0; rw [hlga] at c0'; have hrg' := hide (HRG.out w2 HX2.out.below); clear hb2 c7 d1)
          | (refine wpList_load_mid (by rfl) 32 _ (by rfl) b (o + i * 12 + 1) (by rfl) _ _ hrg'.out Try.underlying32 rfl Try.size32n ?_)
          | (go_at_call 59; refine (compensate_any HX2.out r (bsOf r) (fun h => (HB.out h).below HX2.out.below) (by omega)).mono ?_; rw [HNX.out]; rintro e w3 ⟨rfl, wr3, O3, K3, hX3, hC3⟩; have HX3 := hide hX3; have HC3 := hide hC3; have d0' := (HCI.out _ _ _ _ hX3).1; have d1' := (HCI.out _ _ _ _ hX3).2; have hO3 := hC3.len; clear hX3 hC3 c0')
          | (go_at_call 50; refine (end_any HX3.out y.id (by omega)).mono ?_; rintro e w4 ⟨rfl, wr4, hX4⟩; have HX4 := hide hX4; clear hX4 d0' d1')
          | (go_at_call 60; refine (HPOP.out _ _ _ _ _ HX4.out).mono ?_; rintro e w5 ⟨⟨v, rfl⟩, los5, hX5⟩; have HX5 := hide hX5; clear hX5))
        refine bodyPost_ret (results_none rfl _ _ _) rfl ?_
        exact ⟨rfl, _, _, _, _, _, HX5.out, BackTo.stop r HM.out.1 HM.out.2 (by rw [HNX.out]; omega) _ _ HC3.out⟩
      · have hd2 : decide (nx ≥ y.next) = false := decide_eq_false hge
        go_enter Try.func42, Try.ntmps42
        go_wp2_with (first
          | (go_at_call 54; refine HF.out.mono ?_; rintro e w2 ⟨rfl, hb2⟩; have HX2 := hide (HX.out.stayD hb2); have c0' := HX2.out.c0; rw [hlga] at c0'; have hrg' := hide (HRG.out w2 HX2.out.below); clear hb2 c7 d1)
          | (refine wpList_load_mid (by rfl) 32 _ (by rfl) b (o + i * 12 + 1) (by rfl) _ _ hrg'.out Try.underlying32 rfl Try.size32n ?_)
          | (go_at_call 59; refine (compensate_any HX2.out r (bsOf r) (fun h => (HB.out h).below HX2.out.below) (by omega)).mono ?_; rw [HNX.out]; rintro e w3 ⟨rfl, wr3, O3, K3, hX3, hC3⟩; have HX3 := hide hX3; have HC3 := hide hC3; have d0' := (HCI.out _ _ _ _ hX3).1; have d1' := (HCI.out _ _ _ _ hX3).2; have hO3 := hC3.len; clear hX3 hC3 c0'; have HX4 := hide (HX3.out.setFirst nx).1; have f1' := (HX3.out.setFirst nx).2)
          | (go_at_call 61; refine (HFIX.out nx _ _ _ _ _ HX4.out).mono ?_; rintro e w5 ⟨rfl, los5, hX5⟩; have HX5 := hide hX5; clear hX5))
        go_end0
        refine ⟨rfl, _, _, _, _, _, HX5.out, ?_⟩
        have := BackTo.on (L := L) (bsOf := bsOf) (popL := popL) (fixL := fixL) (y := y) (T := T) (O := O) (K := K) r HM.out.1 HM.out.2 (by rw [HNX.out]; omega) _ _ HC3.out
        rw [HNX.out] at this
        exact this
  · have hno : ∀ r ∈ L, r.lsn ≠ y.next := fun r hr e => by
      obtain ⟨i, hi, he⟩ := List.getElem_of_mem hr
      exact hfnd ⟨i, r, by rw [← he]; exact List.getElem?_eq_getElem hi, e⟩
    have HF := hide (find_no R lg.a lg.c L y.next hc0 hLw hR hno)
    have HNO := hide hno
    clear x hL hR hBy HPop HFix hLw hc0 hfnd hno
    go_enter Try.func42, Try.ntmps42
    go_wp2_with (first
      | (go_at_call 54; refine HF.out.mono ?_; rintro e w2 ⟨⟨pos, rfl⟩, hb2⟩; have HX2 := hide (HX.out.stayD hb2); have d0' := (HCI.out _ _ _ _ HX2.out).1; have d1' := (HCI.out _ _ _ _ HX2.out).2; clear hb2)
      | (go_at_call 50; refine (end_any HX2.out y.id (by omega)).mono ?_; rintro e w4 ⟨rfl, wr4, hX4⟩; have HX4 := hide hX4; clear hX4)
      | (go_at_call 60; refine (HPOP.out _ _ _ _ _ HX4.out).mono ?_; rintro e w5 ⟨⟨v, rfl⟩, los5, hX5⟩; have HX5 := hide hX5; clear hX5))
    refine bodyPost_ret (results_none rfl _ _ _) rfl ?_
    exact ⟨rfl, _, _, _, _, _, HX5.out, BackTo.no HNO.out⟩
end
end Go.Proofs.Ytpjppolbkdnkaaa
