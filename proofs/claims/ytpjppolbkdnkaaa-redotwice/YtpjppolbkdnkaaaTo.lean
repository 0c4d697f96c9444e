/- To: the log as the document's lines. -/
import Derived.Test.YtpjppolbkdnkaaaFine
namespace Go.Proofs.Ytpjppolbkdnkaaa
open Go.RowKit
set_option linter.unusedVariables false
set_option linter.unusedSimpArgs false

def lnRow (L : List Ln) : List Value := L.flatMap lnCells
theorem rec_of_ln {w : World} {b o : Nat} {x : Ln} (h : w.rangeAt b o (lnCells x)) : w.rangeAt b (o + 1) (recCells x) := fun j v hv => by
  have := h (j + 1) v (by unfold lnCells; rw [List.getElem?_cons_succ]; exact hv)
  rw [show o + 1 + j = o + (j + 1) by omega]
  exact this
theorem Try.info84 : (Try.prog.info? 84).map (fun i => (i.zero, i.size, i.bytes)) = some (some (.agg (lnCells Ln.zero).toArray), 12, 160) := by kernel_rfl
set_option maxHeartbeats 2000000 in
set_option maxRecDepth 100000 in
theorem to_any (w : World) (a : Option Addr) (c : Nat) (L : List Ln) (hL : LinesIn w a L) (hl : L.length ≤ 1000000) :
    Calls Try.prog 13 #[.slice a L.length c] w fun e w' => ∃ v, e = .returned v ∧ w'.ownsRow w.heap.size 84 12 v L.length (lnRow L) ∧ Below w.heap.size w w' := by
  have HL := hide hL
  obtain ⟨n, hn⟩ : ∃ n, L.length = n := ⟨_, rfl⟩
  have HN := hide hn
  rw [hn] at hl ⊢
  clear hn hL
  go_enter Try.func13, Try.ntmps13
  go_wp2
  go_loopw [3, 4] (fun v i wr => ∃ k : Nat, k ≤ n ∧ i = .int .i64 k ∧ wr.ownsRow w.heap.size 84 12 v k (lnRow (L.take k)) ∧ Below w.heap.size w wr) (fun _ i _ => n - (iv i).toNat)
  case atStart => exact ⟨0, by omega, rfl, ⟨rfl, .inl ⟨rfl, rfl⟩⟩, Below.refl _ _⟩
  case round =>
    obtain ⟨k, hk, rfl, hrow, hb⟩ := hrel
    obtain ⟨ao, mo, co, rfl⟩ := own_form (owns_zero hrow)
    have HB := hide hb
    have HROW := hide hrow
    by_cases hlt : k < n
    · obtain ⟨x, hx⟩ : ∃ x, L[k]? = some x := ⟨_, List.getElem?_eq_getElem (by rw [HN.out]; exact hlt)⟩
      obtain ⟨hok, b, o, hab, hbl, hrg⟩ := HL.out k x hx
      have HRG : Hid (wr.rangeAt b (o + k * 12) (lnCells x)) := fun j v hv => (hb.cell (p := ⟨b, o + k * 12 + j, none⟩) hbl).trans (hrg j v hv)
      have HIX : Hid (∀ W : World, (Instr.indexAt 23 (.slice (some ⟨b, o, none⟩) n c) (.int .i64 (k : Int))).run Try.prog W = .ok (.pointer (some ⟨b, o + k * 12, none⟩)) W) := fun W => by
        have hu := Try.underlying23
        have h1 : (k : Int) < (n : Int) := by omega
        have h2 : 0 ≤ (k : Int) := by omega
        simp [go_sem, hlt]
      have HBS : Hid (∀ W : World, (do pure (Next.value (← Instr.buildSlice 42 1 #[(0, .agg (lnCells x).toArray)])) : Sem Next).run Try.prog W = .ok (.value (.slice (some ⟨W.heap.size, 0, none⟩) 1 1)) (W.alloc (.cells (lnCells x).toArray 84))) := fun W => by
        have e : (Instr.buildSlice 42 1 #[(0, .agg (lnCells x).toArray)]).run Try.prog W = .ok (.slice (some ⟨W.heap.size, 0, none⟩) 1 1) (W.alloc (.cells (lnCells x).toArray 84)) := by kernel_rfl
        rw [Sem.run_bind, e]; rfl
      have HS1 : Hid ((wr.drew.alloc (.cells (lnCells x).toArray 84)).rangeAt b (o + k * 12) (lnCells x)) := fun j v hv => ((((Below.refl w.heap.size wr).drew).alloc hb.size _).cell (p := ⟨b, o + k * 12 + j, none⟩) hbl).trans (HRG.out j v hv)
      have HOWN : Hid ((wr.drew.alloc (.cells (lnCells x).toArray 84)).ownsRow 0 84 12 (.slice ao mo co) k (lnRow (L.take k))) := owns_of_block (owns_zero HROW.out) (fun q hq => Below.heap_alloc wr.drew _ q (HROW.out.lt q hq).2)
      have HSRC : Hid (∀ j u, (lnCells x)[j]? = some u → (wr.drew.alloc (.cells (lnCells x).toArray 84)).cell? ((⟨wr.heap.size, 0, none⟩ : Addr).add j) = some u) := src_of_block (heap_alloc_new wr.drew _)
      have HTK : Hid (lnRow (L.take (k + 1)) = lnRow (L.take k) ++ lnCells x) := by
        show _ = _
        obtain ⟨hl', hx'⟩ := List.getElem?_eq_some_iff.1 hx
        rw [List.take_succ_eq_append_getElem hl', hx']
        simp [lnRow]
      clear hrg hx hb hrow
      rw [hab]
      go_upto_region 5 with fail
      refine wp_region_held_drew (S := fun w' => w'.rangeAt b (o + k * 12) (lnCells x)) (by kernel_rfl) HRG.out (fun hH => ?_)
      refine take_to 0 11 (.slice ao mo co) rfl (by kernel_rfl) (by kernel_rfl) (by kernel_rfl) (fun _ _ _ h => h) rfl (by rfl) (fun w hw => by rfl) hH ?_
      simp only [Act.put, List.setIfInBounds_toArray, List.set_cons_zero, List.set_cons_succ]
      refine take_to 1 12 (.slice (some ⟨b, o, none⟩) n c) rfl (by kernel_rfl) (by kernel_rfl) (by kernel_rfl) (fun _ _ _ h => h) rfl (by rfl) (fun w hw => by rfl) hH ?_
      simp only [Act.put, List.setIfInBounds_toArray, List.set_cons_zero, List.set_cons_succ]
      refine take_to 2 13 (.int .i64 (k : Int)) rfl (by kernel_rfl) (by kernel_rfl) (by kernel_rfl) (fun _ _ _ h => h) rfl (by rfl) (fun w hw => by rfl) hH ?_
      simp only [Act.put, List.setIfInBounds_toArray, List.set_cons_zero, List.set_cons_succ]
      refine take_to 3 14 (.pointer (some ⟨b, o + k * 12, none⟩)) rfl (by kernel_rfl) (by kernel_rfl) (by kernel_rfl) (fun _ _ _ h => h) rfl (by rfl) (fun w hw => op_index _ _ 23 (.tmp 12) (.tmp 13) rfl (.slice (some ⟨b, o, none⟩) n c) (.int .i64 (k : Int)) _ rfl rfl (HIX.out w)) hH ?_
      simp only [Act.put, List.setIfInBounds_toArray, List.set_cons_zero, List.set_cons_succ]
      refine take_to 4 15 (.pointer (some ⟨b, o + k * 12, none⟩)) rfl (by kernel_rfl) (by kernel_rfl) (by kernel_rfl) (fun _ _ _ h => h) rfl (by rfl) (fun w hw => by rfl) hH ?_
      simp only [Act.put, List.setIfInBounds_toArray, List.set_cons_zero, List.set_cons_succ]
      refine take_to 5 16 (.int .i64 x.lsn) rfl (by kernel_rfl) (by kernel_rfl) (by kernel_rfl) (fun _ _ _ h => h) rfl (by rfl) (fun w hw => op_load _ _ 3 (.tmp 15) rfl (.pointer (some ⟨b, o + k * 12, none⟩)) _ rfl (run_loadAny w b (o + k * 12) 3 _ Try.isAgg3 (hw 0 _ rfl))) hH ?_
      simp only [Act.put, List.setIfInBounds_toArray, List.set_cons_zero, List.set_cons_succ]
      refine take_to 6 17 (.slice (some ⟨b, o, none⟩) n c) rfl (by kernel_rfl) (by kernel_rfl) (by kernel_rfl) (fun _ _ _ h => h) rfl (by rfl) (fun w hw => by rfl) hH ?_
      simp only [Act.put, List.setIfInBounds_toArray, List.set_cons_zero, List.set_cons_succ]
      refine take_to 7 18 (.int .i64 (k : Int)) rfl (by kernel_rfl) (by kernel_rfl) (by kernel_rfl) (fun _ _ _ h => h) rfl (by rfl) (fun w hw => by rfl) hH ?_
      simp only [Act.put, List.setIfInBounds_toArray, List.set_cons_zero, List.set_cons_succ]
      refine take_to 8 19 (.pointer (some ⟨b, o + k * 12, none⟩)) rfl (by kernel_rfl) (by kernel_rfl) (by kernel_rfl) (fun _ _ _ h => h) rfl (by rfl) (fun w hw => op_index _ _ 23 (.tmp 17) (.tmp 18) rfl (.slice (some ⟨b, o, none⟩) n c) (.int .i64 (k : Int)) _ rfl rfl (HIX.out w)) hH ?_
      simp only [Act.put, List.setIfInBounds_toArray, List.set_cons_zero, List.set_cons_succ]
      refine take_to 9 20 (.pointer (some ⟨b, o + k * 12 + 1, none⟩)) rfl (by kernel_rfl) (by kernel_rfl) (by kernel_rfl) (fun _ _ _ h => h) rfl (by rfl) (fun w hw => by rfl) hH ?_
      simp only [Act.put, List.setIfInBounds_toArray, List.set_cons_zero, List.set_cons_succ]
      refine take_to 10 21 (.agg (recCells x).toArray) rfl (by kernel_rfl) (by kernel_rfl) (by kernel_rfl) (fun _ _ _ h => h) rfl (by rfl) (fun w hw => op_load _ _ 32 (.tmp 20) rfl (.pointer (some ⟨b, o + k * 12 + 1, none⟩)) _ rfl (run_loadAt_mid w b (o + k * 12 + 1) 32 (recCells x) _ (rec_of_ln hw) Try.underlying32 rfl Try.size32n)) hH ?_
      simp only [Act.put, List.setIfInBounds_toArray, List.set_cons_zero, List.set_cons_succ]
      refine take_to 11 22 (.agg (lnCells x).toArray) rfl (by kernel_rfl) (by kernel_rfl) (by kernel_rfl) (fun _ _ _ h => h) rfl (by rfl) (fun w hw => by kernel_rfl) hH ?_
      simp only [Act.put, List.setIfInBounds_toArray, List.set_cons_zero, List.set_cons_succ]
      refine step_to 12 23 (.slice (some ⟨wr.heap.size, 0, none⟩) 1 1) (wr.drew.alloc (.cells (lnCells x).toArray 84)) rfl (by kernel_rfl) rfl (by rfl) (by rw [buildSlice_op _ _ 42 1 0 (.tmp 22) rfl _ rfl]; exact HBS.out _) HS1.out ?_
      simp only [Act.put, List.setIfInBounds_toArray, List.set_cons_zero, List.set_cons_succ]
      refine step_append_to 13 24 rfl (by kernel_rfl) rfl rfl (.tmp 11) (.tmp 23) 42 rfl 84 (.agg (lnCells Ln.zero).toArray) 12 160 Try.underlying42 Try.info84 rfl (by omega) (.slice ao mo co) k (lnRow (L.take k)) rfl HOWN.out ⟨wr.heap.size, 0, none⟩ 1 1 (lnCells x) rfl rfl HSRC.out (by intro u hu; simp [lnCells, recCells] at hu; rcases hu with rfl | rfl | rfl | rfl | rfl | rfl | rfl | rfl | rfl | rfl | rfl | rfl <;> rfl) (by simp only [maxLen]; omega) (by omega) (fun v4 w6 ra rb rc => ?_)
      have hB6 : Below w.heap.size wr w6 := (((Below.refl _ wr).drew).alloc HB.out.size _).grown rb (by have := HB.out.size; simp; omega) (fun q hq => (HROW.out.lt q hq).1)
      have hS6 : w6.rangeAt b (o + k * 12) (lnCells x) := fun j v hv => (hB6.cell (p := ⟨b, o + k * 12 + j, none⟩) hbl).trans (HRG.out j v hv)
      refine ⟨hS6, ?_⟩
      simp only [Act.put, List.setIfInBounds_toArray, List.set_cons_zero, List.set_cons_succ]
      obtain ⟨a4, m4, c4, rfl⟩ := own_form ra
      refine step_to 14 3 (.slice a4 m4 c4) w6 rfl (by kernel_rfl) rfl (by rfl) (rfl) hS6 ?_
      simp only [Act.put, List.setIfInBounds_toArray, List.set_cons_zero, List.set_cons_succ]
      refine wpAnyH_done (by kernel_rfl) ?_ _
      have HRA := hide ra
      have HRC := hide rc
      have HB6 := hide hB6
      clear ra rb rc hB6 hS6 hH
      go_wp2
      go_roundw
      case rel =>
        refine ⟨k + 1, by omega, by go_num, ?_, HB.out.trans HB6.out⟩
        rw [HTK.out]
        refine owns_base HRA.out (fun q hq => ?_)
        rcases HRC.out q hq with h | h
        · exact (HROW.out.lt q h).1
        · have := HB.out.size
          simp at h; omega
      case measure => simp [iv]; omega
    · obtain rfl : k = n := by omega
      go_wp2
      go_ret
      refine ⟨_, rfl, ?_, HB.out⟩
      have e : L.take k = L := List.take_of_length_le (by rw [HN.out]; omega)
      rw [e] at HROW
      exact HROW.out
end Go.Proofs.Ytpjppolbkdnkaaa
