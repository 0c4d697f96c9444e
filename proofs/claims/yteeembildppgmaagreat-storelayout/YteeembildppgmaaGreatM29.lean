/- A part of it: SFind SNone DBase. -/
import Derived.Test.YteeembildppgmaaGreatM28
import Derived.WalkKit
import Derived.WalkSpells
import Derived.WalkLawsBesides
import Derived.Deep.MidRow
import Derived.Deep.OwnRows
import Derived.Laws.CopyOwn
import Derived.Deep.RegionHeld
import Derived.Deep.RegionHeldLaw
import Derived.ArgAppend
import Derived.Deep.QuietTactic
import Derived.BigQuiet
import Derived.WalkMore
import Derived.ScopeJumps
import Derived.Shelf.Abstract
import Derived.Test.YteeembildppgmaaGreatRows
namespace Go.Proofs.YteeembildppgmaaGreat
open Go.RowKit
set_option linter.unusedVariables false
set_option linter.unusedSimpArgs false
theorem beval_zeros : ∀ n, Enc.beval (zerosN n) = 0
  | 0 => rfl
  | n + 1 => by
    have := beval_zeros n
    have e : zerosN (n + 1) = zerosN n ++ [0] := by simp [zerosN, List.replicate_succ']
    rw [e, Enc.beval_snoc, this]
    rfl
theorem masterOf_zero (w : World) (g : Nat) (hb : w.heap[g]? = some (.cells (secCells (zerosN 128)).toArray 5 (0, 0))) :
    Calls Tryz.prog 71 #[.slice (some ⟨g, 0, none⟩) 128 128] w fun e w' => e = .returned (.agg #[.int .i64 0, .int .i64 0, .int .i64 0, .int .i64 0]) ∧ Below w.heap.size w w' := by
  have z : ∀ k, Enc.beval (((zerosN 128).drop k).take 8) = 0 := fun k => by
    have : ((zerosN 128).drop k).take 8 = zerosN (min 8 (128 - k)) := by unfold zerosN; rw [List.drop_replicate, List.take_replicate]
    rw [this, beval_zeros]
  refine (masterOf_ok w g (zerosN 128) (by simp [zerosN]) hb 0 0 0 0 (z 0) (z 8) (z 16) (z 24) (by omega) (by omega) (by omega) (by omega)).mono ?_
  rintro e w' ⟨h1, h2, h3⟩
  refine ⟨?_, h3⟩
  by_cases hc : 0 ≤ 1099511627776 ∧ mkSec 0 0 0 0 4 = zerosN 128
  · exact h1 hc
  · exact h2 hc
set_option maxHeartbeats 2000000 in
set_option maxRecDepth 100000 in
theorem findMaster_new {w : World} {p : Nat} {fp : List Nat} {D : Dv} (h : DevC w p fp D) (hd : D.dead = false) (h2 : 2 ≤ D.L.length) (hm : D.W.length < 1000000) (hz : ∀ i, i < 2 → D.newest i = zerosN 128) :
    Calls Tryz.prog 48 #[.pointer (some ⟨p, 0, none⟩)] w fun e w' => e = .returned (.tuple #[.agg #[.int .i64 0, .int .i64 0, .int .i64 0, .int .i64 0], .int .i64 0]) ∧ DevC w' p fp D ∧ Off fp w w' := by
  have HL := hide h.lim
  obtain ⟨R, hR⟩ : ∃ R, w.heap.size = R := ⟨_, rfl⟩
  obtain ⟨N, hN⟩ : ∃ N, R + 1 = N := ⟨_, rfl⟩
  obtain ⟨W2, hW2⟩ : ∃ W2, (w.alloc (.cells #[.int .i64 0, .int .i64 0, .int .i64 0, .int .i64 0] 99)).alloc (.cells #[.int .i64 0, .int .i64 0, .int .i64 0, .int .i64 0] 99) = W2 := ⟨_, rfl⟩
  have r2 : W2.heap[R]? = some (.cells #[.int .i64 0, .int .i64 0, .int .i64 0, .int .i64 0] 99 (0, 0)) := by
    rw [← hW2, ← hR, Below.heap_alloc _ _ _ (by simp)]
    exact heap_alloc_new w _
  have n2 : W2.heap[N]? = some (.cells #[.int .i64 0, .int .i64 0, .int .i64 0, .int .i64 0] 99 (0, 0)) := by
    have := heap_alloc_new (w.alloc (.cells #[.int .i64 0, .int .i64 0, .int .i64 0, .int .i64 0] 99)) (.cells #[.int .i64 0, .int .i64 0, .int .i64 0, .int .i64 0] 99)
    rw [show (w.alloc (.cells #[.int .i64 0, .int .i64 0, .int .i64 0, .int .i64 0] 99)).heap.size = w.heap.size + 1 by simp, hR, hN] at this
    rw [← hW2]
    exact this
  have B2 : Below w.heap.size w W2 := by
    rw [← hW2]
    exact ((Below.refl _ w).alloc (Nat.le_refl _) _).alloc (by simp) _
  have HS2 := hide (And.intro r2 (And.intro n2 (And.intro (h.below B2) (Off.of_below B2 fp))))
  have HRF : Hid (R ∉ fp) := fun hm => by have := HL.out R hm; omega
  have HNF : Hid (N ∉ fp) := fun hm => by have := HL.out N hm; omega
  have HRE := hide hR
  have HNE := hide hN
  have HZ := hide hz
  clear r2 n2 B2 h hz hN
  go_enter Tryz.func48, Tryz.ntmps48
  go_wp2
  rw [HNE.out]
  clear hW2 hR
  go_loopw [9] (fun i wr => ∃ k : Nat, k ≤ 2 ∧ i = .int .i64 k ∧ wr.heap[R]? = some (.cells #[.int .i64 0, .int .i64 0, .int .i64 0, .int .i64 0] 99 (0, 0)) ∧ wr.heap[N]? = some (.cells #[.int .i64 0, .int .i64 0, .int .i64 0, .int .i64 0] 99 (0, 0)) ∧ DevC wr p fp D ∧ Off fp w wr) (fun i _ => 2 - (intOf i).toNat)
  case atStart => exact ⟨0, by omega, rfl, HS2.out⟩
  case round =>
    obtain ⟨k, hk, rfl, r4, n4, d4, o4⟩ := hrel
    have HR4 := hide r4
    have HN4 := hide n4
    have HO4 := hide o4
    have HD4 := hide d4
    by_cases hlt : k < 2
    · have HRD := hide (read_c k d4 hd (by omega) hm)
      rw [HZ.out k hlt] at HRD
      clear r4 n4 d4 o4
      rcases (by omega : k = 0 ∨ k = 1) with rfl | rfl
      all_goals
        go_wp2_with (first
          | (go_at_call 18; refine HRD.out.mono ?_; rintro e w5 ⟨g5, rfl, hg5, hb5, hd5, ho5⟩
             have HM5 := hide (masterOf_zero w5 g5 hb5)
             have HX5 := hide (And.intro hd5 ho5)
             clear hb5 hd5 ho5)
          | (go_at_call 71; refine HM5.out.mono ?_; rintro e w6 ⟨rfl, hB6⟩
             have hn6 : w6.cell? ⟨N, 0, none⟩ = some (.int .i64 0) := by
               have h1 := (HX5.out.2.block N (Array.getElem?_eq_some_iff.1 HN4.out).1 HNF.out).trans HN4.out
               have h2 := (hB6.block N (Array.getElem?_eq_some_iff.1 h1).1).trans h1
               rw [cell_of_row w6 N 0 _ _ _ h2]; rfl
             have hnl : N < w6.heap.size := World.block_lt_of_cell? w6 _ hn6
             have ha6 : (w6.alloc (.cells #[.int .i64 0, .int .i64 0, .int .i64 0, .int .i64 0] 99)).cell? ⟨N, 0, none⟩ = some (.int .i64 0) := (((Below.refl w6.heap.size w6).alloc (Nat.le_refl _) (.cells #[.int .i64 0, .int .i64 0, .int .i64 0, .int .i64 0] 99)).cell (p := ⟨N, 0, none⟩) hnl).trans hn6
             have HB6 := hide hB6
             clear hB6))
        have hB7 : Below w6.heap.size w6 (w6.alloc (.cells #[.int .i64 0, .int .i64 0, .int .i64 0, .int .i64 0] 99)) := (Below.refl _ w6).alloc (Nat.le_refl _) _
        have r5 := (HX5.out.2.block R (Array.getElem?_eq_some_iff.1 HR4.out).1 HRF.out).trans HR4.out
        have r6 := (HB6.out.block R (Array.getElem?_eq_some_iff.1 r5).1).trans r5
        have n5 := (HX5.out.2.block N (Array.getElem?_eq_some_iff.1 HN4.out).1 HNF.out).trans HN4.out
        have n6 := (HB6.out.block N (Array.getElem?_eq_some_iff.1 n5).1).trans n5
        have o7 : Off fp w (w6.alloc (.cells #[.int .i64 0, .int .i64 0, .int .i64 0, .int .i64 0] 99)) := ((HO4.out.trans HX5.out.2 (fun q hq => .inl hq)).trans (Off.of_below HB6.out fp) (fun q hq => .inl hq)).trans (Off.of_below hB7 fp) (fun q hq => .inl hq)
        have d7 := (HX5.out.1.below HB6.out).below hB7
        have r7 := (hB7.block R (Array.getElem?_eq_some_iff.1 r6).1).trans r6
        have n7 := (hB7.block N (Array.getElem?_eq_some_iff.1 n6).1).trans n6
      · exact ⟨⟨1, by omega, rfl, r7, n7, d7, o7⟩, by simp [intOf]⟩
      · exact ⟨⟨2, by omega, rfl, r7, n7, d7, o7⟩, by simp [intOf]⟩
    · have hk2 : k = 2 := by omega
      subst hk2
      have c0 : wr.cell? ⟨N, 0, none⟩ = some (.int .i64 0) := by rw [cell_of_row wr N 0 _ _ _ n4]; rfl
      have c1 : wr.cell? ⟨N, 1, none⟩ = some (.int .i64 0) := by rw [cell_of_row wr N 1 _ _ _ n4]; rfl
      have c2 : wr.cell? ⟨N, 2, none⟩ = some (.int .i64 0) := by rw [cell_of_row wr N 2 _ _ _ n4]; rfl
      have c3 : wr.cell? ⟨N, 3, none⟩ = some (.int .i64 0) := by rw [cell_of_row wr N 3 _ _ _ n4]; rfl
      have hsr : wr.setRow R #[.int .i64 0, .int .i64 0, .int .i64 0, .int .i64 0] = wr := setRow_self wr R _ _ _ HR4.out
      clear r4 n4 d4 o4
      go_wp2_with (refine wpList_store_row rfl 99 _ _ rfl R #[.int .i64 0, .int .i64 0, .int .i64 0, .int .i64 0] rfl rfl 99 #[.int .i64 0, .int .i64 0, .int .i64 0, .int .i64 0] HR4.out (Tryz.size99) rfl (one4 0 0 0 0) ?_; rw [hsr])
      refine bodyPost_ret (v := .tuple #[.agg #[.int .i64 0, .int .i64 0, .int .i64 0, .int .i64 0], .int .i64 0]) ?_ rfl ⟨rfl, HD4.out, HO4.out⟩
      rw [results_cell_tmp Tryz.results48]
      have hl := run_loadVar_row (P := Tryz.prog) wr R 99 99 #[.int .i64 0, .int .i64 0, .int .i64 0, .int .i64 0] (0, 0) _ HR4.out Tryz.underlying99 rfl Tryz.size99
      simp [asAddr, hl]
end Go.Proofs.YteeembildppgmaaGreat
namespace Go.Proofs.YteeembildppgmaaGreat
open Go.RowKit
set_option linter.unusedVariables false
set_option linter.unusedSimpArgs false
theorem LinesAt.none {w : World} {base st : Nat} {l : Value} (h : LinesAt w base l st []) : ∃ ao c, l = .slice ao 0 c := by
  obtain ⟨_, qs, _, ho, _⟩ := h
  obtain ⟨ao, c, e⟩ := Enc.owns_len ho
  exact ⟨ao, c, e⟩
section
variable {w0 w w' : World} {s : Nat} {c : Cf} {xs tb : List Nat} {ov : Value} {ps : List Nat} {uvs : List Value} {S : St} {V : Nat → List UInt8}
/-- An empty log has no lines. -/
theorem lines_none (h : StIs w0 w s c xs tb ov ps uvs S) (hh : S.R.held = []) :
    Calls Tryz.prog 65 #[.pointer (some ⟨s, 0, none⟩)] w fun e w' => ∃ ao cc, e = .returned (.slice ao 0 cc) ∧ Below w.heap.size w w' := by
  refine (lines_ok h [] hh (fun R hR => by simp at hR)).mono ?_
  rintro e w' ⟨l, rfl, hl, hB⟩
  obtain ⟨ao, cc, rfl⟩ := hl.none
  exact ⟨ao, cc, rfl, hB⟩
set_option maxHeartbeats 400000 in
theorem commitsAhead_none (h : StIs w0 w s c xs tb ov ps uvs S) (hh : S.R.held = []) (st : Int) :
    Calls Tryz.prog 112 #[.pointer (some ⟨s, 0, none⟩), .int .i64 st] w fun e w' => e = .returned (.int .i64 (S.commits : Int)) ∧ Below w.heap.size w w' := by
  have c6 : w.cell? ⟨s, 6, none⟩ = some (.int .i64 (S.commits : Int)) := by rw [cell_of_row w s 6 _ _ _ h.head]; rfl
  have HL := hide (lines_none h hh)
  clear h hh
  go_enter Tryz.func112, Tryz.ntmps112
  go_wp2_with (go_at_call 65; refine HL.out.mono ?_; rintro e w2 ⟨ao, cc, rfl, hB⟩; have HB := hide hB; clear hB)
  refine wp_loop_rounds 1 ?_
  rw [rounds_succ]
  go_wp2
  go_ret
  exact ⟨rfl, HB.out⟩
set_option maxHeartbeats 400000 in
/-- With nobody to end the log is made to last. -/
theorem endDone_none (h : StIs w0 w s c xs tb ov ps uvs S) (la ta da : Option Addr) (lc tc dc : Nat) :
    Calls Tryz.prog 80 #[.pointer (some ⟨s, 0, none⟩), .agg #[.slice la 0 lc, .slice ta 0 tc, .slice da 0 dc]] w fun e w' => e = .returned (.int .i64 0) ∧ StIs w0 w' s c xs tb ov ps uvs (S.setR { S.R with fin := S.R.tail }) ∧ Kept (s :: (tb ++ xs)) w w' := by
  have hb1 : Below w.heap.size w (w.alloc (.cells #[.slice la 0 lc, .slice ta 0 tc, .slice da 0 dc] 124)) := (Below.refl _ w).alloc (Nat.le_refl _) _
  have HF := hide (sflush_ok (h.belowW hb1))
  have HB := hide hb1
  have H := hide h
  clear h hb1
  go_enter Tryz.func80, Tryz.ntmps80
  go_wp2
  refine wp_loop_rounds 1 ?_
  rw [rounds_succ]
  go_wp2_with (go_at_call 41; refine HF.out.mono ?_; rintro e w2 ⟨rfl, h2, hK2⟩; have H2 := hide (And.intro h2 hK2); clear h2 hK2)
  go_ret
  exact ⟨rfl, H2.out.1, Kept.trans ⟨HB.out.size, fun k hk => HB.out.block k (H.out.lts hk)⟩ H2.out.2⟩
end
end Go.Proofs.YteeembildppgmaaGreat
namespace Go.Proofs.YteeembildppgmaaGreat.Rd
open Go.RowKit
set_option linter.unusedVariables false
set_option linter.unusedSimpArgs false
theorem hide {p : Prop} (h : p) : Hid p := h
theorem flat_length {α : Type} (m : Nat) : ∀ X : List (List α), (∀ x ∈ X, x.length = m) → X.flatten.length = X.length * m
  | [], _ => by simp
  | x :: r, h => by
    rw [List.flatten_cons, List.length_append, flat_length m r (fun y hy => h y (by simp [hy])), h x (by simp), List.length_cons, Nat.add_mul]
    omega
theorem flat_get {α : Type} (m : Nat) : ∀ (X : List (List α)) (_ : ∀ x ∈ X, x.length = m) (i : Nat) (hi : i < X.length) (j : Nat) (_ : j < m), X.flatten[i * m + j]? = X[i][j]?
  | [], _, i, hi, _, _ => by simp at hi
  | x :: r, h, 0, _, j, hj => by
    rw [List.flatten_cons, Nat.zero_mul, Nat.zero_add, List.getElem?_append_left (by rw [h x (by simp)]; exact hj)]
    rfl
  | x :: r, h, i + 1, hi, j, hj => by
    have hx : x.length = m := h x (by simp)
    rw [List.flatten_cons, List.getElem?_append_right (by rw [hx, Nat.add_mul]; omega), hx, show (i + 1) * m + j - m = i * m + j by rw [Nat.add_mul]; omega,
      flat_get m r (fun y hy => h y (by simp [hy])) i (by simpa using hi) j hj]
    rfl
theorem flat_take {α : Type} (m : Nat) : ∀ (X : List (List α)) (_ : ∀ x ∈ X, x.length = m) (i : Nat), X.flatten.take (i * m) = (X.take i).flatten
  | [], _, i => by simp
  | x :: r, _, 0 => by simp
  | x :: r, h, i + 1 => by
    have hx : x.length = m := h x (by simp)
    rw [List.flatten_cons, List.take_succ_cons, List.flatten_cons, Nat.add_mul, Nat.one_mul, ← flat_take m r (fun y hy => h y (by simp [hy])) i]
    rw [List.take_append, hx, List.take_of_length_le (by omega)]
    congr 2
    omega
theorem flat_drop {α : Type} (m : Nat) : ∀ (X : List (List α)) (_ : ∀ x ∈ X, x.length = m) (i : Nat), X.flatten.drop (i * m) = (X.drop i).flatten
  | [], _, i => by simp
  | x :: r, _, 0 => by simp
  | x :: r, h, i + 1 => by
    have hx : x.length = m := h x (by simp)
    rw [List.flatten_cons, List.drop_succ_cons, Nat.add_mul, Nat.one_mul, ← flat_drop m r (fun y hy => h y (by simp [hy])) i]
    rw [List.drop_append, hx, List.drop_of_length_le (by omega), List.nil_append]
    congr 1
    omega
/-- One row laid over another. -/
theorem flat_set {α : Type} (m : Nat) (X : List (List α)) (h : ∀ x ∈ X, x.length = m) (i : Nat) (hi : i < X.length) (v : List α) (hv : v.length = m) :
    X.flatten.take (i * m) ++ v ++ X.flatten.drop (i * m + v.length) = (X.set i v).flatten := by
  rw [hv, flat_take m X h, show i * m + m = (i + 1) * m by rw [Nat.add_mul]; omega, flat_drop m X h, List.set_eq_take_append_cons_drop, if_pos hi]
  simp
/-- All blocks but those of 'fp' are as they were. -/
structure Off (fp : List Nat) (w w' : World) : Prop where
  os : w'.os = w.os
  tape : w'.tape = w.tape
  output : w'.output = w.output
  size : w.heap.size ≤ w'.heap.size
  block : ∀ k, k < w.heap.size → k ∉ fp → w'.heap[k]? = w.heap[k]?
theorem Off.refl (fp : List Nat) (w : World) : Off fp w w := ⟨rfl, rfl, rfl, Nat.le_refl _, fun _ _ _ => rfl⟩
/-- Behind it another one, whose blocks are of the first's or new. -/
theorem Off.trans {fp fp' : List Nat} {a b c : World} (h : Off fp a b) (k : Off fp' b c) (hfp : ∀ i ∈ fp', i ∈ fp ∨ a.heap.size ≤ i) : Off fp a c :=
  ⟨k.os.trans h.os, k.tape.trans h.tape, k.output.trans h.output, Nat.le_trans h.size k.size, fun i hi hn =>
    (k.block i (Nat.lt_of_lt_of_le hi h.size) (fun hm => by rcases hfp i hm with h1 | h1; exact hn h1; omega)).trans (h.block i hi hn)⟩
theorem Off.mono {fp fp' : List Nat} {a b : World} (h : Off fp a b) (hs : ∀ i ∈ fp, i ∈ fp') : Off fp' a b :=
  ⟨h.os, h.tape, h.output, h.size, fun k hk hn => h.block k hk (fun hm => hn (hs k hm))⟩
theorem Off.below {fp : List Nat} {a b : World} (h : Off fp a b) {B : Nat} (hB : B ≤ a.heap.size) (hf : ∀ k ∈ fp, B ≤ k) : Below B a b :=
  ⟨h.os, h.tape, h.output, h.size, fun k hk => h.block k (by omega) (fun hm => by have := hf k hm; omega)⟩
theorem Off.of_below {a b : World} (h : Below a.heap.size a b) (fp : List Nat) : Off fp a b :=
  ⟨h.os, h.tape, h.output, h.size, fun k hk _ => h.block k hk⟩
theorem Off.alloc {fp : List Nat} {a w : World} (h : Off fp a w) (o : Obj) : Off fp a (w.alloc o) :=
  ⟨h.os, h.tape, h.output, by have := h.size; simp; omega, fun k hk hn => (Below.heap_alloc _ _ _ (Nat.lt_of_lt_of_le hk h.size)).trans (h.block k hk hn)⟩
theorem Off.drew {fp : List Nat} {a w : World} (h : Off fp a w) : Off fp a w.drew := ⟨h.os, h.tape, h.output, h.size, h.block⟩
theorem Off.setCell {fp : List Nat} {a w : World} (h : Off fp a w) (p : Addr) (u : Value) (hp : p.block ∈ fp ∨ a.heap.size ≤ p.block) : Off fp a (w.setCell p u) :=
  ⟨h.os, h.tape, h.output, by have := h.size; simpa [World.setCell] using this, fun k hk hn => (Below.heap_setCell _ _ _ _ (fun e => by subst e; rcases hp with hp | hp; exact hn hp; omega)).trans (h.block k hk hn)⟩
theorem Off.setRow {fp : List Nat} {a w : World} (h : Off fp a w) (g : Nat) (cs : Array Value) (hp : g ∈ fp ∨ a.heap.size ≤ g) : Off fp a (w.setRow g cs) :=
  ⟨h.os, h.tape, h.output, by have := h.size; simpa [World.setRow] using this, fun k hk hn => (setRow_other w g k cs (fun e => by subst e; rcases hp with hp | hp; exact hn hp; omega)).trans (h.block k hk hn)⟩
theorem Off.grown {fp : List Nat} {a w w' : World} {row : Option Nat} (h : Off fp a w) (hg : w.grownBy w' row) (hr : ∀ k, row = some k → k ∈ fp ∨ a.heap.size ≤ k) : Off fp a w' :=
  ⟨hg.os.trans h.os, hg.tape.trans h.tape, hg.output.trans h.output, Nat.le_trans h.size hg.size, fun k hk hn =>
    (hg.block k (Nat.lt_of_lt_of_le hk h.size) (fun e => by rcases hr k e.symm with h1 | h1; exact hn h1; omega)).trans (h.block k hk hn)⟩
/-- A row that is owned stays so if its block is as it was. -/
theorem owns_of_block {w w' : World} {e : TypeId} {size : Nat} {v : Value} {n : Nat} {xs : List Value} (h : w.ownsRow 0 e size v n xs) (hb : ∀ k, v.ownBlock = some k → w'.heap[k]? = w.heap[k]?) : w'.ownsRow 0 e size v n xs := by
  refine ⟨h.1, ?_⟩
  rcases h.2 with hn | ⟨g, cap, cur, rfl, hb', hgg, rest⟩
  · exact .inl hn
  · exact .inr ⟨g, cap, cur, rfl, hb', by rw [hb g rfl]; exact hgg, rest⟩
theorem src_of_block {w : World} {g : Nat} {t : TypeId} {fr : Nat × Nat} {X : List Value} (h : w.heap[g]? = some (.cells X.toArray t fr)) : ∀ j v, X[j]? = some v → w.cell? ((⟨g, 0, none⟩ : Addr).add j) = some v := fun j v hv => by
  rw [Addr.add_mid, Nat.zero_add, cell_of_row w g j _ _ _ h]
  simpa using hv
theorem owns_zero {w : World} {base : Nat} {e : TypeId} {size : Nat} {v : Value} {n : Nat} {xs : List Value} (h : w.ownsRow base e size v n xs) : w.ownsRow 0 e size v n xs := by
  refine ⟨h.1, ?_⟩
  rcases h.2 with hn | ⟨g, cap, cur, hv, _, rest⟩
  · exact .inl hn
  · exact .inr ⟨g, cap, cur, hv, Nat.zero_le _, rest⟩
/-- append to an owned row: in its own block, or in a new one. -/
theorem run_append_owned {P : Program} (w : World) (t ty e : TypeId) (i : TypeInfo) (z : Value) (size bytes : Nat) (ht : P.underlying t = some (.slice e)) (hi : P.info? e = some i) (hz : i.zero = some z)
    (hsize : i.size = size) (hby : i.bytes = bytes) (hzs : z.cells.size = size) (hsz : 0 < size)
    (v : Value) (n : Nat) (xs : List Value) (hown : w.ownsRow 0 e size v n xs)
    (a : Addr) (m c : Nat) (news : List Value) (hl : news.length = m * size) (hnews : ∀ j u, news[j]? = some u → w.cell? (a.add j) = some u) (h1 : ∀ u ∈ news, u.oneCell' = true)
    (h63 : n + m ≤ maxLen) (hbytes : (n + m) * bytes ≤ 140737488355328) :
    ∃ v' w', (Builtin.append_ #[t, t] ty #[v, .slice (some a) m c]).run P w = .ok v' w' ∧ w'.ownsRow 0 e size v' (n + m) (xs ++ news) ∧ w.grownBy w' v.ownBlock ∧
      (∀ k, v'.ownBlock = some k → v.ownBlock = some k ∨ w.heap.size ≤ k) := by
  rcases hown.2 with ⟨rfl, rfl⟩ | ⟨g, cap, cur, rfl, _, hg, hnc, hcm, hcs, htake⟩
  · obtain rfl : xs = [] := List.eq_nil_of_length_eq_zero (by simpa using hown.1)
    obtain ⟨v', w', hr, ho, hgr, _⟩ := run_append_own (P := P) w w.heap.size t ty e i z size bytes ht hi hz hsize hby hzs hsz (.slice none 0 0) 0 [] (World.ownsRow_nil w _ e size) a m c news hl hnews h1 h63 hbytes (Nat.le_refl _)
    exact ⟨v', w', hr, owns_zero ho, hgr, fun k hk => .inr (ho.lt k hk).1⟩
  · by_cases hroom : n + m ≤ cap
    · obtain ⟨v', w', hr, ho, hgr, _⟩ := run_append_own (P := P) w 0 t ty e i z size bytes ht hi hz hsize hby hzs hsz _ n xs hown a m c news hl hnews h1 h63 hbytes (Nat.zero_le _)
      subst hsize
      have hr2 := run_append_room (P := P) w t ty e i ht hi g n cap cur hg a m c news hl hnews h1 hroom (by rw [hl, hcs, ← Nat.add_mul]; exact Nat.mul_le_mul_right _ hroom)
      have hv : v' = .slice (some ⟨g, 0, none⟩) (n + m) cap := by
        have := hr.symm.trans hr2
        injection this
      refine ⟨v', w', hr, ho, hgr, fun k hk => .inl ?_⟩
      rw [hv] at hk
      exact hk
    · obtain ⟨v', w', hr, ho, hgr⟩ := run_append_arg_grows (P := P) w t ty e i z size bytes ht hi hz hsize hby hzs hsz ⟨g, 0, none⟩ n cap xs hown.1 (hown.cells rfl) a m c news hl hnews (by omega) h63 hbytes
      exact ⟨v', w', hr, owns_zero ho, ⟨hgr.os, hgr.tape, hgr.output, hgr.size, fun k hk _ => hgr.block k hk (by simp)⟩, fun k hk => .inr (ho.lt k hk).1⟩
/-- .. as one step of a region that draws its order. -/
theorem step_append_owned {P : Program} {ops : Array Oper} {o : Oper} {a : Act} {w : World} {K : Act → World → Prop} {Q : Exit → Act → World → Prop} {E : Prop}
    (hg : o.guard = none) (s x : Operand) (t : TypeId) (hop : o.op = Op.call { callee := Callee.builtin Builtin.append, args := #[s, x], argTypes := #[t, t] })
    (e : TypeId) (z : Value) (size bytes : Nat) (ht : P.underlying t = some (.slice e)) (hi : (P.info? e).map (fun i => (i.zero, i.size, i.bytes)) = some (some z, size, bytes)) (hzs : z.cells.size = size) (hsz : 0 < size)
    (v : Value) (n : Nat) (xs : List Value) (hs : a.eval s = v) (hown : w.ownsRow 0 e size v n xs)
    (ad : Addr) (m c : Nat) (news : List Value) (hx : a.eval x = .slice (some ad) m c) (hl : news.length = m * size) (hnews : ∀ j u, news[j]? = some u → w.cell? (ad.add j) = some u) (h1 : ∀ u ∈ news, u.oneCell' = true)
    (h63 : n + m ≤ maxLen) (hbytes : (n + m) * bytes ≤ 140737488355328)
    (hK : ∀ v' w', w'.ownsRow 0 e size v' (n + m) (xs ++ news) → w.grownBy w' v.ownBlock → (∀ k, v'.ownBlock = some k → v.ownBlock = some k ∨ w.heap.size ≤ k) → K (a.put o.dst v') w') :
    if Region.wanted o (yielded ops a.tmps) = true then Oper.wp P o a w K Q else E := by
  have hw : Region.wanted o (yielded ops a.tmps) = true := by simp [Region.wanted, hg]
  rw [if_pos hw]
  obtain ⟨i, hi, hz⟩ := Option.map_eq_some_iff.1 hi
  simp only [Prod.mk.injEq] at hz
  obtain ⟨hz, hsize, hby⟩ := hz
  obtain ⟨v', w', hrun, r1, r2, r3⟩ := run_append_owned (P := P) w t o.type e i z size bytes ht hi hz hsize hby hzs hsz v n xs hown ad m c news hl hnews h1 h63 hbytes
  unfold Oper.wp
  simp [execOp, hop, resolve, invoke, builtin, hs, hx, hrun, Result.andThen]
  exact hK v' w' r1 r2 r3
/-- .. at a plain region's list. -/
theorem wpList_append_owned {P : Program} {ops : Array Oper} {rest : List Oper} {o : Oper} {a : Act} {w : World} {Q : Exit → Act → World → Prop}
    (hg : o.guard = none) (s x : Operand) (t : TypeId) (hop : o.op = Op.call { callee := Callee.builtin Builtin.append, args := #[s, x], argTypes := #[t, t] })
    (e : TypeId) (z : Value) (size bytes : Nat) (ht : P.underlying t = some (.slice e)) (hi : (P.info? e).map (fun i => (i.zero, i.size, i.bytes)) = some (some z, size, bytes)) (hzs : z.cells.size = size) (hsz : 0 < size)
    (v : Value) (n : Nat) (xs : List Value) (hs : a.eval s = v) (hown : w.ownsRow 0 e size v n xs)
    (ad : Addr) (m c : Nat) (news : List Value) (hx : a.eval x = .slice (some ad) m c) (hl : news.length = m * size) (hnews : ∀ j u, news[j]? = some u → w.cell? (ad.add j) = some u) (h1 : ∀ u ∈ news, u.oneCell' = true)
    (h63 : n + m ≤ maxLen) (hbytes : (n + m) * bytes ≤ 140737488355328)
    (hK : ∀ v' w', w'.ownsRow 0 e size v' (n + m) (xs ++ news) → w.grownBy w' v.ownBlock → (∀ k, v'.ownBlock = some k → v.ownBlock = some k ∨ w.heap.size ≤ k) → wpList P ops Q rest (a.put o.dst v') w') :
    wpList P ops Q (o :: rest) a w := by
  refine wpList_plain hg fun K hK' => ?_
  obtain ⟨i, hi, hz⟩ := Option.map_eq_some_iff.1 hi
  simp only [Prod.mk.injEq] at hz
  obtain ⟨hz, hsize, hby⟩ := hz
  obtain ⟨v', w', hrun, r1, r2, r3⟩ := run_append_owned (P := P) w t o.type e i z size bytes ht hi hz hsize hby hzs hsz v n xs hown ad m c news hl hnews h1 h63 hbytes
  unfold Oper.wp
  simp [execOp, hop, resolve, invoke, builtin, hs, hx, hrun, Result.andThen]
  exact hK' _ _ (hK v' w' r1 r2 r3)
/-- 'wpAnyH_take', the temporary named. -/
theorem take_to {P : Program} {ops : Array Oper} {Q : Exit → Act → World → Prop} {md : Region.Mode} {S : World → Prop} {oi : Oper} {fuel : Nat} {listed : Array Bool} {a : Act} {w : World} (i dst : Nat) (v : Value) (hi : ops[i]? = some oi)
    (hs : Region.noSelect ops = true) (hf : Region.free md ops listed i = true) (hr : (Region.ready md ops listed).contains i = true)
    (hQ : ∀ c a w, Q (.panic c) (a.put oi.dst v) w → Q (.panic c) a w) (hd : oi.dst = some dst) (hw : Region.wanted oi (yielded ops a.tmps) = true) (hy : ∀ w, S w → (execOp a.eval oi).run P w = .ok (.value v) w) (hS : S w)
    (h : wpAnyH P md ops Q S fuel (listed.setIfInBounds i true) (a.put (some dst) v) w) : wpAnyH P md ops Q S (fuel + 1) listed a w :=
  wpAnyH_take hi hs hf hr hQ (.inl ⟨hw, hy⟩) hS (by rw [hd]; exact h)
/-- One operation that leaves a value and a world. -/
theorem op_to {P : Program} {ops : Array Oper} {Q : Exit → Act → World → Prop} {oi : Oper} {a : Act} {w : World} {K : Act → World → Prop} {i : Nat} (dst : Nat) (v : Value) (w' : World) (hi : ops[i]? = some oi)
    (hd : oi.dst = some dst) (hw : Region.wanted oi (yielded ops a.tmps) = true) (hy : (execOp a.eval oi).run P w = .ok (.value v) w') (h : K (a.put (some dst) v) w') : wpOp P ops Q i K a w := by
  refine wpOp_step hi (fun K' hK => ?_)
  rw [if_pos hw]
  unfold Oper.wp
  rw [hy, Oper.upon_value, hd]
  exact hK _ _ h
/-- One operation that comes up alone and leaves a value and a world. -/
theorem step_to {P : Program} {ops : Array Oper} {Q : Exit → Act → World → Prop} {md : Region.Mode} {S : World → Prop} {oi : Oper} {fuel : Nat} {listed : Array Bool} {a : Act} {w : World} (i dst : Nat) (v : Value) (w' : World) (hi : ops[i]? = some oi)
    (hr : Region.ready md ops listed = [i]) (hd : oi.dst = some dst) (hw : Region.wanted oi (yielded ops a.tmps) = true) (hy : (execOp a.eval oi).run P w = .ok (.value v) w') (hS : S w')
    (h : wpAnyH P md ops Q S fuel (listed.setIfInBounds i true) (a.put (some dst) v) w') : wpAnyH P md ops Q S (fuel + 1) listed a w := by
  refine wpAnyH_ready hr (by simp) (AllReadyH.cons hi (fun K hK => ?_) AllReadyH.nil)
  rw [if_pos hw]
  unfold Oper.wp
  rw [hy, Oper.upon_value, hd]
  exact hK.out _ _ hS (fun _ => h)
/-- .. by a law. -/
theorem step_by {P : Program} {ops : Array Oper} {Q : Exit → Act → World → Prop} {md : Region.Mode} {S : World → Prop} {oi : Oper} {fuel : Nat} {listed : Array Bool} {a : Act} {w : World} (i : Nat) (hi : ops[i]? = some oi)
    (hr : Region.ready md ops listed = [i])
    (h : ∀ K : Act → World → Prop, (∀ a' w', S w' → wpAnyH P md ops Q S fuel (listed.setIfInBounds i true) a' w' → K a' w') → if Region.wanted oi (yielded ops a.tmps) = true then Oper.wp P oi a w K Q else K (a.put oi.dst undef) w) :
    wpAnyH P md ops Q S (fuel + 1) listed a w := by
  refine wpAnyH_ready hr (by simp) (AllReadyH.cons hi (fun K hK => ?_) AllReadyH.nil)
  exact h K (fun a' w' hS hw => hK.out _ _ hS (fun _ => hw))
/-- An append to an owned row that comes up alone. -/
theorem step_append_to {P : Program} {ops : Array Oper} {Q : Exit → Act → World → Prop} {md : Region.Mode} {S : World → Prop} {o : Oper} {fuel : Nat} {listed : Array Bool} {a : Act} {w : World} (j dst : Nat) (hj : ops[j]? = some o)
    (hr : Region.ready md ops listed = [j]) (hd : o.dst = some dst)
    (hg : o.guard = none) (s x : Operand) (t : TypeId) (hop : o.op = Op.call { callee := Callee.builtin Builtin.append, args := #[s, x], argTypes := #[t, t] })
    (e : TypeId) (z : Value) (size bytes : Nat) (ht : P.underlying t = some (.slice e)) (hi : (P.info? e).map (fun i => (i.zero, i.size, i.bytes)) = some (some z, size, bytes)) (hzs : z.cells.size = size) (hsz : 0 < size)
    (v : Value) (n : Nat) (xs : List Value) (hs : a.eval s = v) (hown : w.ownsRow 0 e size v n xs)
    (ad : Addr) (m c : Nat) (news : List Value) (hx : a.eval x = .slice (some ad) m c) (hl : news.length = m * size) (hnews : ∀ j u, news[j]? = some u → w.cell? (ad.add j) = some u) (h1 : ∀ u ∈ news, u.oneCell' = true)
    (h63 : n + m ≤ maxLen) (hbytes : (n + m) * bytes ≤ 140737488355328)
    (hK : ∀ v' w', w'.ownsRow 0 e size v' (n + m) (xs ++ news) → w.grownBy w' v.ownBlock → (∀ k, v'.ownBlock = some k → v.ownBlock = some k ∨ w.heap.size ≤ k) → S w' ∧ wpAnyH P md ops Q S fuel (listed.setIfInBounds j true) (a.put (some dst) v') w') :
    wpAnyH P md ops Q S (fuel + 1) listed a w :=
  step_by j hj hr (fun _ hK' => step_append_owned hg s x t hop e z size bytes ht hi hzs hsz v n xs hs hown ad m c news hx hl hnews h1 h63 hbytes
    (fun v' w' r1 r2 r3 => hK' _ _ (hK v' w' r1 r2 r3).1 (by rw [hd]; exact (hK v' w' r1 r2 r3).2)))
/-- A store that comes up alone. -/
theorem step_store_to {P : Program} {ops : Array Oper} {Q : Exit → Act → World → Prop} {md : Region.Mode} {S : World → Prop} {o : Oper} {fuel : Nat} {listed : Array Bool} {a : Act} {w : World} (j : Nat) (w' : World) (hj : ops[j]? = some o)
    (hr : Region.ready md ops listed = [j]) (hd : o.dst = none) (hw : Region.wanted o (yielded ops a.tmps) = true) (t : TypeId) (x y : Operand) (hop : o.op = Op.store t x y) (px v : Value) (hx : a.eval x = px) (hy : a.eval y = v)
    (hrun : (Instr.storeAt t px v).run P w = .ok () w') (hS : S w') (h : wpAnyH P md ops Q S fuel (listed.setIfInBounds j true) a w') : wpAnyH P md ops Q S (fuel + 1) listed a w := by
  refine step_by j hj hr (fun K hK => ?_)
  rw [if_pos hw]
  unfold Oper.wp execOp
  simp only [hop, hx, hy, Sem.run_bind, hrun, Result.andThen_ok, Sem.run_pure, Oper.upon_skip]
  rw [hd]
  exact hK _ _ hS h
theorem buildSlice_op (ρ : Operand → Value) (o : Oper) (t : TypeId) (len j : Nat) (x : Operand) (ho : o.op = .buildSlice t len #[(j, x)]) (v : Value) (hx : ρ x = v) :
    execOp ρ o = (do pure (Next.value (← Instr.buildSlice t len #[(j, v)]))) := by
  unfold execOp
  simp [ho, hx]
theorem own_form {w : World} {e : TypeId} {size n : Nat} {v : Value} {xs : List Value} (h : w.ownsRow 0 e size v n xs) : ∃ ao m c, v = .slice ao m c := by
  rcases h.2 with ⟨rfl, _⟩ | ⟨g, cap, cur, rfl, _⟩
  · exact ⟨_, _, _, rfl⟩
  · exact ⟨_, _, _, rfl⟩
/-- A store of many cells into the midst of a row that is owned whole. -/
theorem run_storeAt_in {P : Program} (w : World) (b o : Nat) (t ty : TypeId) (cur : Array Value) (cs : List Value) (hg : w.heap[b]? = some (.cells cur t (0, 0))) (hfit : o + cs.length ≤ cur.size) (hi : (P.info? ty).map (·.size) = some cs.length) (h1 : ∀ v ∈ cs, v.oneCell' = true) :
    (Instr.storeAt ty (.pointer (some ⟨b, o, none⟩)) (.agg cs.toArray)).run P w = .ok () (w.setRow b (cur.toList.take o ++ cs ++ cur.toList.drop (o + cs.length)).toArray) := by
  have hr := run_storeCells_at P b o t cs 0 cur w hg (by simpa using hfit) h1
  simp only [Nat.add_zero] at hr
  cases hq : P.info? ty with
  | none => simp [hq] at hi
  | some i =>
    have hs : cs.length = i.size := by simp [hq] at hi; omega
    simp [Instr.storeAt, Instr.sureAddr, storeVar, sizeOf, typeInfo, hq, Value.cells, hs]
    rw [hs, List.append_assoc] at hr
    exact hr
theorem op_load (ρ : Operand → Value) (o : Oper) (t : TypeId) (x : Operand) (ho : o.op = .load t x) (px v : Value) (hx : ρ x = px) {P : Program} {w : World} (hr : (Instr.loadAt t px).run P w = .ok v w) : (execOp ρ o).run P w = .ok (.value v) w := by
  unfold execOp
  simp only [ho, hx, Sem.run_bind, hr, Result.andThen_ok, Sem.run_pure]
theorem op_index (ρ : Operand → Value) (o : Oper) (t : TypeId) (x y : Operand) (ho : o.op = .indexAddr t x y) (px py v : Value) (hx : ρ x = px) (hy : ρ y = py) {P : Program} {w : World} (hr : (Instr.indexAt t px py).run P w = .ok v w) : (execOp ρ o).run P w = .ok (.value v) w := by
  unfold execOp
  simp only [ho, hx, hy, Sem.run_bind, hr, Result.andThen_ok, Sem.run_pure]
theorem Off.drewN {fp : List Nat} {a w : World} (h : Off fp a w) (m : Nat) : Off fp a (w.drewN m) := ⟨h.os, h.tape, h.output, h.size, h.block⟩
theorem Off.undrewN {fp : List Nat} {a w : World} {m : Nat} (h : Off fp (a.drewN m) w) : Off fp a w := ⟨h.os, h.tape, h.output, h.size, h.block⟩
theorem below_drewN (B : Nat) (w : World) (m : Nat) : Below B w (w.drewN m) := ⟨rfl, rfl, rfl, Nat.le_refl _, fun _ _ => rfl⟩
/-- As Q; by a goto to label l: J l. -/
def Exit.jumps (J : Nat → Act → World → Prop) (Q : Exit → Act → World → Prop) : Exit → Act → World → Prop
  | .goto l, a, w => J l a w
  | e, a, w => Q e a w
theorem Exit.jumps_ret {J : Nat → Act → World → Prop} {Q : Exit → Act → World → Prop} {a : Act} {w : World} : Exit.jumps J Q .ret a w = Q .ret a w := rfl
/-- n jumps at most, each walked from its own frame. -/
def fwd (P : Program) (c : Code) (Q : Exit → Act → World → Prop) : Nat → Nat → Act → World → Prop
  | 0, _, _, _ => False
  | n + 1, l, a, w => ∃ rest, findLabel c l = some rest ∧ rest.wp P (Exit.jumps (fwd P c Q n) Q) a w
theorem wp_scope_fwd {P : Program} {Q : Exit → Act → World → Prop} {a : Act} {w : World} {c : Code} (n : Nat) (first : c.wp P (Exit.jumps (fwd P c Q n) Q) a w) : (Code.scope c).wp P Q a w := by
  intro b k cs
  have key : ∀ n l a w, fwd P c Q n l a w → ∃ rest, findLabel c l = some rest ∧ ∃ e a' w', Q e a' w' ∧ Arrives P (lone (b.at a (.code rest :: .inScope c :: k)) cs w) b k cs e a' w' := by
    intro n
    induction n with
    | zero => intro l a w h; exact h.elim
    | succ n ih =>
      rintro l a w ⟨rest, hf, hw⟩
      refine ⟨rest, hf, ?_⟩
      obtain ⟨e, a₁, w₁, hq, harr⟩ := hw b (.inScope c :: k) cs
      cases e with
      | normal => exact ⟨.normal, a₁, w₁, hq, Steps.trans harr (.one step_inScope)⟩
      | exit id => exact ⟨.exit id, a₁, w₁, hq, fun k' hk => harr k' (by simp [exitTo, hk])⟩
      | goto l' =>
        obtain ⟨rest', hf', e₂, a₂, w₂, hq₂, harr₂⟩ := ih l' a₁ w₁ hq
        have hg : gotoIn l' (.inScope c :: k) = some (.code rest' :: .inScope c :: k) := by simp [gotoIn, hf']
        exact ⟨e₂, a₂, w₂, hq₂, .of_steps (harr _ hg) harr₂⟩
      | ret => exact ⟨_, a₁, w₁, hq, harr⟩
      | panic ch => exact ⟨_, a₁, w₁, hq, harr⟩
      | outgrown => exact ⟨_, a₁, w₁, hq, harr⟩
  obtain ⟨e, a₁, w₁, hq, harr⟩ := first b (.inScope c :: k) cs
  cases e with
  | normal => exact ⟨.normal, a₁, w₁, hq, .head step_scope (Steps.trans harr (.one step_inScope))⟩
  | exit id => exact ⟨.exit id, a₁, w₁, hq, fun k' hk => .head step_scope (harr k' (by simp [exitTo, hk]))⟩
  | goto l' =>
    obtain ⟨rest', hf', e₂, a₂, w₂, hq₂, harr₂⟩ := key n l' a₁ w₁ hq
    have hg : gotoIn l' (.inScope c :: k) = some (.code rest' :: .inScope c :: k) := by simp [gotoIn, hf']
    exact ⟨e₂, a₂, w₂, hq₂, .of_steps (.head step_scope (harr _ hg)) harr₂⟩
  | ret => exact ⟨_, a₁, w₁, hq, .of_steps (.one step_scope) harr⟩
  | panic ch => exact ⟨_, a₁, w₁, hq, .of_steps (.one step_scope) harr⟩
  | outgrown => exact ⟨_, a₁, w₁, hq, .of_steps (.one step_scope) harr⟩
theorem step_call1_to {P : Program} {ops : Array Oper} {Q : Exit → Act → World → Prop} {md : Region.Mode} {S : World → Prop} {o : Oper} {fuel : Nat} {listed : Array Bool} {a : Act} {w : World} {R : Ending → World → Prop} (j dst f : Nat) (hj : ops[j]? = some o)
    (hr : Region.ready md ops listed = [j]) (hd : o.dst = some dst) (hw : Region.wanted o (yielded ops a.tmps) = true) (x : Operand) (ts : Array TypeId) (hop : o.op = Op.call { callee := Callee.value (Operand.func f), args := #[x], argTypes := ts })
    (vx : Value) (hx : a.eval x = vx) (hcf : ∀ args w, (callFunc f args).run P w = .ok (.enter f args) w) (hc : Calls P f #[vx] w R)
    (hK : ∀ e w', R e w' → ∃ v, e = .returned v ∧ S w' ∧ wpAnyH P md ops Q S fuel (listed.setIfInBounds j true) (a.put (some dst) v) w') : wpAnyH P md ops Q S (fuel + 1) listed a w := by
  refine step_by j hj hr (fun K hK' => ?_)
  rw [if_pos hw]
  have hrun : (execOp a.eval o).run P w = .ok (.enter f #[vx]) w := by
    have hff : a.eval (.func f) = .func (.func f) #[] #[] := rfl
    unfold execOp
    simp [hop, resolve, hff, Deferred.ofValue, invoke, hx]
    exact hcf _ _
  unfold Oper.wp
  rw [hrun, Oper.upon_enter]
  refine hc.mono ?_
  intro e w' hR
  obtain ⟨v, rfl, hS, hW⟩ := hK e w' hR
  show K (a.put o.dst v) w'
  rw [hd]
  exact hK' _ _ hS hW
theorem step_call2_to {P : Program} {ops : Array Oper} {Q : Exit → Act → World → Prop} {md : Region.Mode} {S : World → Prop} {o : Oper} {fuel : Nat} {listed : Array Bool} {a : Act} {w : World} {R : Ending → World → Prop} (j dst f : Nat) (hj : ops[j]? = some o)
    (hr : Region.ready md ops listed = [j]) (hd : o.dst = some dst) (hw : Region.wanted o (yielded ops a.tmps) = true) (x y : Operand) (ts : Array TypeId) (hop : o.op = Op.call { callee := Callee.value (Operand.func f), args := #[x, y], argTypes := ts })
    (vx vy : Value) (hx : a.eval x = vx) (hy : a.eval y = vy) (hcf : ∀ args w, (callFunc f args).run P w = .ok (.enter f args) w) (hc : Calls P f #[vx, vy] w R)
    (hK : ∀ e w', R e w' → ∃ v, e = .returned v ∧ S w' ∧ wpAnyH P md ops Q S fuel (listed.setIfInBounds j true) (a.put (some dst) v) w') : wpAnyH P md ops Q S (fuel + 1) listed a w := by
  refine step_by j hj hr (fun K hK' => ?_)
  rw [if_pos hw]
  have hrun : (execOp a.eval o).run P w = .ok (.enter f #[vx, vy]) w := by
    have hff : a.eval (.func f) = .func (.func f) #[] #[] := rfl
    unfold execOp
    simp [hop, resolve, hff, Deferred.ofValue, invoke, hx, hy]
    exact hcf _ _
  unfold Oper.wp
  rw [hrun, Oper.upon_enter]
  refine hc.mono ?_
  intro e w' hR
  obtain ⟨v, rfl, hS, hW⟩ := hK e w' hR
  show K (a.put o.dst v) w'
  rw [hd]
  exact hK' _ _ hS hW
theorem step_call3_to {P : Program} {ops : Array Oper} {Q : Exit → Act → World → Prop} {md : Region.Mode} {S : World → Prop} {o : Oper} {fuel : Nat} {listed : Array Bool} {a : Act} {w : World} {R : Ending → World → Prop} (j dst f : Nat) (hj : ops[j]? = some o)
    (hr : Region.ready md ops listed = [j]) (hd : o.dst = some dst) (hw : Region.wanted o (yielded ops a.tmps) = true) (x y z : Operand) (ts : Array TypeId) (hop : o.op = Op.call { callee := Callee.value (Operand.func f), args := #[x, y, z], argTypes := ts })
    (vx vy vz : Value) (hx : a.eval x = vx) (hy : a.eval y = vy) (hz : a.eval z = vz) (hcf : ∀ args w, (callFunc f args).run P w = .ok (.enter f args) w) (hc : Calls P f #[vx, vy, vz] w R)
    (hK : ∀ e w', R e w' → ∃ v, e = .returned v ∧ S w' ∧ wpAnyH P md ops Q S fuel (listed.setIfInBounds j true) (a.put (some dst) v) w') : wpAnyH P md ops Q S (fuel + 1) listed a w := by
  refine step_by j hj hr (fun K hK' => ?_)
  rw [if_pos hw]
  have hrun : (execOp a.eval o).run P w = .ok (.enter f #[vx, vy, vz]) w := by
    have hff : a.eval (.func f) = .func (.func f) #[] #[] := rfl
    unfold execOp
    simp [hop, resolve, hff, Deferred.ofValue, invoke, hx, hy, hz]
    exact hcf _ _
  unfold Oper.wp
  rw [hrun, Oper.upon_enter]
  refine hc.mono ?_
  intro e w' hR
  obtain ⟨v, rfl, hS, hW⟩ := hK e w' hR
  show K (a.put o.dst v) w'
  rw [hd]
  exact hK' _ _ hS hW
theorem run_loadAny (w : World) (b o t : Nat) (v : Value) (ha : ∀ w, (isAgg t).run Tryz.prog w = .ok false w) (h : w.cell? ⟨b, o, none⟩ = some v) : (Instr.loadAt t (.pointer (some ⟨b, o, none⟩))).run Tryz.prog w = .ok v w := by
  simp [go_sem, ha, h]
theorem step_callv1_to {P : Program} {ops : Array Oper} {Q : Exit → Act → World → Prop} {md : Region.Mode} {S : World → Prop} {o : Oper} {fuel : Nat} {listed : Array Bool} {a : Act} {w : World} {R : Ending → World → Prop} (j dst f : Nat) (cb : Array Value) (hj : ops[j]? = some o)
    (hr : Region.ready md ops listed = [j]) (hd : o.dst = some dst) (hw : Region.wanted o (yielded ops a.tmps) = true) (fo x : Operand) (ts : Array TypeId) (hop : o.op = Op.call { callee := Callee.value fo, args := #[x], argTypes := ts })
    (vx : Value) (hf : a.eval fo = .func (.func f) #[] cb) (hx : a.eval x = vx) (hcf : ∀ args w, (callFunc f args).run P w = .ok (.enter f args) w) (hc : Calls P f (#[vx] ++ cb) w R)
    (hK : ∀ e w', R e w' → ∃ v, e = .returned v ∧ S w' ∧ wpAnyH P md ops Q S fuel (listed.setIfInBounds j true) (a.put (some dst) v) w') : wpAnyH P md ops Q S (fuel + 1) listed a w := by
  refine step_by j hj hr (fun K hK' => ?_)
  rw [if_pos hw]
  have hrun : (execOp a.eval o).run P w = .ok (.enter f (#[vx] ++ cb)) w := by
    unfold execOp
    simp [hop, resolve, hf, Deferred.ofValue, invoke, hx]
    exact hcf _ _
  unfold Oper.wp
  rw [hrun, Oper.upon_enter]
  refine hc.mono ?_
  intro e w' hR
  obtain ⟨v, rfl, hS, hW⟩ := hK e w' hR
  show K (a.put o.dst v) w'
  rw [hd]
  exact hK' _ _ hS hW
theorem wpList_store_in {P : Program} {ops : Array Oper} {rest : List Oper} {op : Oper} {a : Act} {w : World} {Q : Exit → Act → World → Prop} (hgd : op.guard = none) (ty : TypeId) (x y : Operand) (ho : op.op = .store ty x y) (hd : op.dst = none)
    (b o : Nat) (cs : List Value) (w' : World) (hx : a.eval x = .pointer (some ⟨b, o, none⟩)) (hy : a.eval y = .agg cs.toArray) (hr : (Instr.storeAt ty (.pointer (some ⟨b, o, none⟩)) (.agg cs.toArray)).run P w = .ok () w')
    (h : wpList P ops Q rest a w') : wpList P ops Q (op :: rest) a w :=
  wpList_plain hgd fun K hK => by
    unfold Oper.wp execOp
    simp only [ho, hx, hy, Sem.run_bind, hr, Result.andThen_ok, Sem.run_pure, Oper.upon_skip]
    exact hK _ _ (by rw [hd]; exact h)
theorem step_call4_to {P : Program} {ops : Array Oper} {Q : Exit → Act → World → Prop} {md : Region.Mode} {S : World → Prop} {o : Oper} {fuel : Nat} {listed : Array Bool} {a : Act} {w : World} {R : Ending → World → Prop} (j dst f : Nat) (hj : ops[j]? = some o)
    (hr : Region.ready md ops listed = [j]) (hd : o.dst = some dst) (hw : Region.wanted o (yielded ops a.tmps) = true) (x y z u : Operand) (ts : Array TypeId) (hop : o.op = Op.call { callee := Callee.value (Operand.func f), args := #[x, y, z, u], argTypes := ts })
    (vx vy vz vu : Value) (hx : a.eval x = vx) (hy : a.eval y = vy) (hz : a.eval z = vz) (hu : a.eval u = vu) (hcf : ∀ args w, (callFunc f args).run P w = .ok (.enter f args) w) (hc : Calls P f #[vx, vy, vz, vu] w R)
    (hK : ∀ e w', R e w' → ∃ v, e = .returned v ∧ S w' ∧ wpAnyH P md ops Q S fuel (listed.setIfInBounds j true) (a.put (some dst) v) w') : wpAnyH P md ops Q S (fuel + 1) listed a w := by
  refine step_by j hj hr (fun K hK' => ?_)
  rw [if_pos hw]
  have hrun : (execOp a.eval o).run P w = .ok (.enter f #[vx, vy, vz, vu]) w := by
    have hff : a.eval (.func f) = .func (.func f) #[] #[] := rfl
    unfold execOp
    simp [hop, resolve, hff, Deferred.ofValue, invoke, hx, hy, hz, hu]
    exact hcf _ _
  unfold Oper.wp
  rw [hrun, Oper.upon_enter]
  refine hc.mono ?_
  intro e w' hR
  obtain ⟨v, rfl, hS, hW⟩ := hK e w' hR
  show K (a.put o.dst v) w'
  rw [hd]
  exact hK' _ _ hS hW
theorem flat_set1 {α : Type} (m : Nat) (v : α) : ∀ (X : List (List α)) (_ : ∀ x ∈ X, x.length = m) (i : Nat) (hi : i < X.length) (j : Nat) (_ : j < m), X.flatten.set (i * m + j) v = (X.set i ((X[i]'hi).set j v)).flatten
  | [], _, i, hi, _, _ => by simp at hi
  | x :: r, h, 0, _, j, hj => by
    have hx : x.length = m := h x (by simp)
    rw [List.flatten_cons, Nat.zero_mul, Nat.zero_add, List.set_append_left _ _ (by omega)]
    rfl
  | x :: r, h, i + 1, hi, j, hj => by
    have hx : x.length = m := h x (by simp)
    rw [List.flatten_cons, List.set_append_right _ _ (by rw [hx, Nat.add_mul]; omega), hx, show (i + 1) * m + j - m = i * m + j by rw [Nat.add_mul]; omega,
      flat_set1 m v r (fun y hy => h y (by simp [hy])) i (by simpa using hi) j hj]
    rfl
theorem op_add3 (ρ : Operand → Value) (o : Oper) (x y : Operand) (tt : TypeId) (ho : o.op = .binOp .add 3 x y tt) (n m : Int) (hx : ρ x = .int .i64 n) (hy : ρ y = .int .i64 m) (b : Int) (hb : IntKind.i64.wrap (n + m) = b) {w : World} : (execOp ρ o).run Tryz.prog w = .ok (.value (.int .i64 b)) w := by
  have hu := Tryz.underlying3
  unfold execOp
  simp only [ho, hx, hy]
  simp [go_sem, hu, hb]
theorem op_rem3 (ρ : Operand → Value) (o : Oper) (x y : Operand) (tt : TypeId) (ho : o.op = .binOp .rem 3 x y tt) (n m : Int) (hx : ρ x = .int .i64 n) (hy : ρ y = .int .i64 m) (b : Int) (hm : 0 < m) (hb : n.tmod m = b) {w : World} : (execOp ρ o).run Tryz.prog w = .ok (.value (.int .i64 b)) w := by
  have hu := Tryz.underlying3
  have h0 : (m == 0) = false := beq_eq_false_iff_ne.2 (by omega)
  have h0' : m ≠ 0 := by omega
  unfold execOp
  simp only [ho, hx, hy]
  simp [go_sem, hu, hb, h0, h0']
/-- The blocks xs are as they were. -/
def Kept (xs : List Nat) (w w' : World) : Prop := w.heap.size ≤ w'.heap.size ∧ ∀ k ∈ xs, w'.heap[k]? = w.heap[k]?
theorem Kept.refl (xs : List Nat) (w : World) : Kept xs w w := ⟨Nat.le_refl _, fun _ _ => rfl⟩
theorem Kept.trans {xs : List Nat} {a b c : World} (h : Kept xs a b) (k : Kept xs b c) : Kept xs a c := ⟨Nat.le_trans h.1 k.1, fun i hi => (k.2 i hi).trans (h.2 i hi)⟩
theorem Kept.mono {xs ys : List Nat} {a b : World} (h : Kept xs a b) (hy : ∀ k ∈ ys, k ∈ xs) : Kept ys a b := ⟨h.1, fun k hk => h.2 k (hy k hk)⟩
end Go.Proofs.YteeembildppgmaaGreat.Rd
