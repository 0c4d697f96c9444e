/- lose: those that did not commit. -/
import Derived.Test.YtpjppolbkdnkaaaBack
import Derived.Test.YtpjppolbkdnkaaaAnalyze
namespace Go.Proofs.Ytpjppolbkdnkaaa
open Go.RowKit
set_option linter.unusedVariables false
set_option linter.unusedSimpArgs false

section
variable {w0 w w' : World} {R : Nat} {lg : Sv} {los wr : Value} {H : List Los} {O : List Ln} {K : List (Nat × Obj)}
theorem UndoIs.drop {p : Nat × Obj} (x : UndoIs w0 w R lg los wr H O (p :: K)) : UndoIs w0 w R lg los wr H O K := { x with keep := fun q hq => x.keep q (List.mem_cons_of_mem _ hq) }
def PushIs (w0 : World) (R : Nat) (lg : Sv) (H : List Los) (y : Los) (H' : List Los) : Prop := ∀ W los wr O K, UndoIs w0 W R lg los wr H O K → Calls Try.prog 51 #[.iface 108 (.pointer (some ⟨R, 7, none⟩)), .iface 110 (.agg (losCells y).toArray)] W fun e w' => e = .returned (.tuple #[]) ∧ ∃ los', UndoIs w0 w' R lg los' wr H' O K
/-- What the heap's calls do, up to N losers. -/
structure Hp (w0 : World) (R : Nat) (lg : Sv) (N : Nat) where
  pushL : List Los → Los → List Los
  popL : List Los → List Los
  fixL : List Los → List Los
  pushP : ∀ H y, (pushL H y).Perm (y :: H)
  popP : ∀ y T, (popL (y :: T)).Perm T
  fixP : ∀ H, (fixL H).Perm H
  push : ∀ H y, H.length < N → PushIs w0 R lg H y (pushL H y)
  pop : ∀ y T, T.length < N → PopIs w0 R lg (y :: T) (popL (y :: T))
  fix : ∀ y T, T.length < N → FixIs w0 R lg (y :: T) (fixL (y :: T))
def lose1 (pushL : List Los → Los → List Los) (s : List Los × List Ln) (t : Tx) : List Los × List Ln := if t.st = 2 then s else if t.last ≤ 0 then (s.1, s.2 ++ [endLn t.id]) else (pushL s.1 ⟨t.id, t.last⟩, s.2)
def loseN (pushL : List Los → Los → List Los) (s : List Los × List Ln) (ts : List Tx) : List Los × List Ln := ts.foldl (lose1 pushL) s
theorem lose1_len (pushL : List Los → Los → List Los) (hp : ∀ H y, (pushL H y).Perm (y :: H)) (s : List Los × List Ln) (t : Tx) : (lose1 pushL s t).1.length ≤ s.1.length + 1 ∧ (lose1 pushL s t).2.length ≤ s.2.length + 1 := by
  unfold lose1
  split
  · exact ⟨by omega, by omega⟩
  · split
    · exact ⟨by simp, by simp⟩
    · exact ⟨by rw [(hp _ _).length_eq]; simp, by simp⟩
theorem loseN_len (pushL : List Los → Los → List Los) (hp : ∀ H y, (pushL H y).Perm (y :: H)) : ∀ (ts : List Tx) (s : List Los × List Ln), (loseN pushL s ts).1.length ≤ s.1.length + ts.length ∧ (loseN pushL s ts).2.length ≤ s.2.length + ts.length
  | [], s => ⟨by simp [loseN], by simp [loseN]⟩
  | t :: ts, s => by
    have h1 := loseN_len pushL hp ts (lose1 pushL s t)
    have h2 := lose1_len pushL hp s t
    have e : loseN pushL s (t :: ts) = loseN pushL (lose1 pushL s t) ts := rfl
    rw [e, List.length_cons]
    omega
theorem Try.enters51 (args : Array Value) (w : World) : (callFunc 51 args).run Try.prog w = .ok (.enter 51 args) w := by kernel_rfl
theorem Try.size47n : (Try.prog.info? 47).map (·.size) = some 3 := by kernel_rfl
set_option maxHeartbeats 4000000 in
set_option maxRecDepth 100000 in
theorem lose_any {N : Nat} (hp : Hp w0 R lg N) (x : UndoIs w0 w R lg los wr [] [] K) (a : Option Addr) (c : Nat) (ts : List Tx) (hT : TxsAt w0 a ts) (hN : ts.length ≤ N) (hN2 : N ≤ 10000) :
    Calls Try.prog 37 #[.pointer (some ⟨R, 0, none⟩), .slice a ts.length c] w fun e w' => e = .returned (.tuple #[]) ∧ ∃ los' wr', UndoIs w0 w' R lg los' wr' (loseN hp.pushL ([], []) ts).1 (loseN hp.pushL ([], []) ts).2 K := by
  obtain ⟨kn, hkn⟩ : ∃ kn, ts.length = kn := ⟨_, rfl⟩
  have HKN := hide hkn
  have HT := hide hT
  have HX := hide x
  rw [hkn] at hN ⊢
  clear hkn hT x
  go_enter Try.func37, Try.ntmps37
  go_wp2
  go_loopw [8] (fun i wx => ∃ (j : Nat) (los' wr' : Value), j ≤ kn ∧ i = .int .i64 j ∧ UndoIs w0 wx R lg los' wr' (loseN hp.pushL ([], []) (ts.take j)).1 (loseN hp.pushL ([], []) (ts.take j)).2 K) (fun i _ => kn - (iv i).toNat)
  case atStart => exact ⟨0, los, wr, by omega, rfl, HX.out⟩
  case round =>
    obtain ⟨j, los', wr', hj, rfl, hX⟩ := hrel
    have HX2 := hide hX
    by_cases hlt : j < kn
    · obtain ⟨t, ht⟩ : ∃ t, ts[j]? = some t := ⟨_, List.getElem?_eq_getElem (by rw [HKN.out]; exact hlt)⟩
      obtain ⟨b, o, hab, hbl, hrg⟩ := HT.out j t ht
      have HTK : Hid (loseN hp.pushL ([], []) (ts.take (j + 1)) = lose1 hp.pushL (loseN hp.pushL ([], []) (ts.take j)) t) := by
        show _ = _
        obtain ⟨hl', hx'⟩ := List.getElem?_eq_some_iff.1 ht
        rw [List.take_succ_eq_append_getElem hl', hx']
        simp [loseN]
      have hlen := loseN_len hp.pushL hp.pushP (ts.take j) ([], [])
      have htl : (ts.take j).length ≤ j := by rw [List.length_take]; omega
      obtain ⟨S, hS⟩ : ∃ S, loseN hp.pushL ([], []) (ts.take j) = S := ⟨_, rfl⟩
      rw [hS] at HX2 HTK hlen
      simp only [List.length_nil, Nat.zero_add] at hlen
      have hl1 : S.1.length ≤ j := by omega
      have hl2 : S.2.length ≤ j := by omega
      clear hlen
      have HRG : Hid (wr.rangeAt b (o + j * 3) (txCells t)) := fun q v hv => (hX.below.cell (p := ⟨b, o + j * 3 + q, none⟩) hbl).trans (hrg q v hv)
      clear hX hrg ht hS htl
      unfold txCells at HRG
      rw [hab]
      go_upto_region 3 with (refine wpList_load_mid (by rfl) 47 _ (by rfl) b (o + j * 3) (by rfl) _ _ HRG.out Try.underlying47 rfl Try.size47n ?_)
      generalize hx1 : wr.alloc _ = x1
      have hG : x1.heap[wr.heap.size]? = some (.cells (txCells t).toArray 47 (0, 0)) := by rw [← hx1]; exact heap_alloc_new _ _
      have HX3 := hide (HX2.out.addKeep (by rw [← hx1]; exact (Below.refl _ _).alloc (Nat.le_refl _) _) wr.heap.size _ (Nat.le_refl _) hG)
      have e0 : x1.cell? ⟨wr.heap.size, 0, none⟩ = some (.int .i64 t.id) := by rw [cell_of_row _ _ _ _ _ _ hG]; rfl
      have e1 : x1.cell? ⟨wr.heap.size, 1, none⟩ = some (.int .i64 t.last) := by rw [cell_of_row _ _ _ _ _ _ hG]; rfl
      have e2 : x1.cell? ⟨wr.heap.size, 2, none⟩ = some (.int .i64 t.st) := by rw [cell_of_row _ _ _ _ _ _ hG]; rfl
      have HG := hide hG
      clear hx1 hG HX2 HRG
      generalize wr.heap.size = g at *
      by_cases h2 : t.st = 2
      · have hb2 : (t.st == 2) = true := by simp [h2]
        have H1 : Hid (lose1 hp.pushL S t = S) := by show _ = _; unfold lose1; rw [if_pos h2]
        clear h2
        go_wp2
        go_roundw
        case rel =>
          refine ⟨j + 1, los', wr', by omega, by go_num, ?_⟩
          rw [HTK.out, H1.out]
          exact HX3.out.drop
        case measure => simp [iv]; omega
      · have hb2 : (t.st == 2) = false := beq_eq_false_iff_ne.2 h2
        by_cases h0 : t.last ≤ 0
        · have hb0 : decide (t.last ≤ 0) = true := decide_eq_true h0
          have H1 : Hid (lose1 hp.pushL S t = (S.1, S.2 ++ [endLn t.id])) := by show _ = _; unfold lose1; rw [if_neg h2, if_pos h0]
          clear h2 h0
          go_wp2_with (go_at_call 50; refine (end_any HX3.out t.id (by omega)).mono ?_; rintro e w4 ⟨rfl, wr4, hX4⟩; have HX4 := hide hX4; clear hX4)
          go_roundw
          case rel =>
            refine ⟨j + 1, los', wr4, by omega, by go_num, ?_⟩
            rw [HTK.out, H1.out]
            exact HX4.out.drop
          case measure => simp [iv]; omega
        · have hb0 : decide (t.last ≤ 0) = false := decide_eq_false h0
          have H1 : Hid (lose1 hp.pushL S t = (hp.pushL S.1 ⟨t.id, t.last⟩, S.2)) := by show _ = _; unfold lose1; rw [if_neg h2, if_neg h0]
          have HPU := hide (hp.push S.1 ⟨t.id, t.last⟩ (by omega))
          clear h2 h0
          go_upto_region 6 with fail
          refine wp_region_held_drew (S := fun w' => w'.heap[g]? = some (.cells (txCells t).toArray 47 (0, 0))) (by kernel_rfl) HG.out (fun hH' => ?_)
          refine take_to 0 22 (.pointer (some ⟨R, 0, none⟩)) rfl (by kernel_rfl) (by kernel_rfl) (by kernel_rfl) (fun _ _ _ h => h) rfl (by rfl) (fun w hw => by rfl) hH' ?_
          simp only [Act.put, List.setIfInBounds_toArray, List.set_cons_zero, List.set_cons_succ]
          refine take_to 1 23 (.pointer (some ⟨R, 0, none⟩)) rfl (by kernel_rfl) (by kernel_rfl) (by kernel_rfl) (fun _ _ _ h => h) rfl (by rfl) (fun w hw => by rfl) hH' ?_
          simp only [Act.put, List.setIfInBounds_toArray, List.set_cons_zero, List.set_cons_succ]
          refine take_to 2 24 (.pointer (some ⟨R, 7, none⟩)) rfl (by kernel_rfl) (by kernel_rfl) (by kernel_rfl) (fun _ _ _ h => h) rfl (by rfl) (fun w hw => by kernel_rfl) hH' ?_
          simp only [Act.put, List.setIfInBounds_toArray, List.set_cons_zero, List.set_cons_succ]
          refine take_to 3 25 (.iface 108 (.pointer (some ⟨R, 7, none⟩))) rfl (by kernel_rfl) (by kernel_rfl) (by kernel_rfl) (fun _ _ _ h => h) rfl (by rfl) (fun w hw => by kernel_rfl) hH' ?_
          simp only [Act.put, List.setIfInBounds_toArray, List.set_cons_zero, List.set_cons_succ]
          refine take_to 4 26 (.pointer (some ⟨g, 0, none⟩)) rfl (by kernel_rfl) (by kernel_rfl) (by kernel_rfl) (fun _ _ _ h => h) rfl (by rfl) (fun w hw => by kernel_rfl) hH' ?_
          simp only [Act.put, List.setIfInBounds_toArray, List.set_cons_zero, List.set_cons_succ]
          refine take_to 5 27 (.int .i64 t.id) rfl (by kernel_rfl) (by kernel_rfl) (by kernel_rfl) (fun _ _ _ h => h) rfl (by rfl) (fun w hw => op_load _ _ 3 (.tmp 26) rfl (.pointer (some ⟨g, 0, none⟩)) _ rfl (run_loadAny w g 0 3 _ Try.isAgg3 (by rw [cell_of_row _ _ _ _ _ _ hw]; rfl))) hH' ?_
          simp only [Act.put, List.setIfInBounds_toArray, List.set_cons_zero, List.set_cons_succ]
          refine take_to 6 28 (.pointer (some ⟨g, 1, none⟩)) rfl (by kernel_rfl) (by kernel_rfl) (by kernel_rfl) (fun _ _ _ h => h) rfl (by rfl) (fun w hw => by kernel_rfl) hH' ?_
          simp only [Act.put, List.setIfInBounds_toArray, List.set_cons_zero, List.set_cons_succ]
          refine take_to 7 29 (.int .i64 t.last) rfl (by kernel_rfl) (by kernel_rfl) (by kernel_rfl) (fun _ _ _ h => h) rfl (by rfl) (fun w hw => op_load _ _ 3 (.tmp 28) rfl (.pointer (some ⟨g, 1, none⟩)) _ rfl (run_loadAny w g 1 3 _ Try.isAgg3 (by rw [cell_of_row _ _ _ _ _ _ hw]; rfl))) hH' ?_
          simp only [Act.put, List.setIfInBounds_toArray, List.set_cons_zero, List.set_cons_succ]
          refine take_to 8 30 (.agg (losCells ⟨t.id, t.last⟩).toArray) rfl (by kernel_rfl) (by kernel_rfl) (by kernel_rfl) (fun _ _ _ h => h) rfl (by rfl) (fun w hw => by kernel_rfl) hH' ?_
          simp only [Act.put, List.setIfInBounds_toArray, List.set_cons_zero, List.set_cons_succ]
          refine take_to 9 31 (.iface 110 (.agg (losCells ⟨t.id, t.last⟩).toArray)) rfl (by kernel_rfl) (by kernel_rfl) (by kernel_rfl) (fun _ _ _ h => h) rfl (by rfl) (fun w hw => by kernel_rfl) hH' ?_
          simp only [Act.put, List.setIfInBounds_toArray, List.set_cons_zero, List.set_cons_succ]
          refine step_call2_to 10 32 51 rfl (by kernel_rfl) rfl (by rfl) (.tmp 25) (.tmp 31) #[136, 20] rfl _ _ rfl rfl Try.enters51 (HPU.out _ _ _ _ _ (HX3.out.stayD (below_drewN _ _ 1))) ?_
          rintro e w4 ⟨rfl, los4, hX4⟩
          have HX4 := hide hX4
          refine ⟨_, rfl, (hX4.keep _ (List.mem_cons_self ..)).1, ?_⟩
          simp only [Act.put, List.setIfInBounds_toArray, List.set_cons_zero, List.set_cons_succ]
          refine wpAnyH_done (by kernel_rfl) ?_ _
          clear hX4 hH' e0 e1 e2
          go_wp2
          go_roundw
          case rel =>
            refine ⟨j + 1, los4, wr', by omega, by go_num, ?_⟩
            rw [HTK.out, H1.out]
            exact HX4.out.drop
          case measure => simp [iv]; omega
    · obtain rfl : j = kn := by omega
      go_wp2
      go_end0
      refine ⟨rfl, los', wr', ?_⟩
      have e : ts.take j = ts := List.take_of_length_le (by rw [HKN.out]; omega)
      rw [e] at HX2
      exact HX2.out
end
end Go.Proofs.Ytpjppolbkdnkaaa
