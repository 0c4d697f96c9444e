/- Release. -/
import Derived.Test.YtffjdjbjkjefoaaRel
namespace Go.Proofs.Ytffjdjbjkjefoaa
open Go.RowKit Go.WideAt
set_option linter.unusedVariables false
set_option linter.unusedSimpArgs false

theorem name_cell {w : World} {base : Nat} {v : Value} {l : List (List UInt8)} (h : w.ownsRow base 9 1 v l.length (l.map scell)) {k : Nat} {s : List UInt8} (hk : l[k]? = some s) : ∃ g c, v = .slice (some ⟨g, 0, none⟩) l.length c ∧ w.cell? ⟨g, k, none⟩ = some (scell s) := by
  rcases own_of h with ⟨_, h1, _⟩ | ⟨g, cap, cur, rfl, _, h2, _, _, _, h6⟩
  · rw [List.eq_nil_of_length_eq_zero h1] at hk
    cases hk
  · refine ⟨g, cap, rfl, ?_⟩
    rw [cell_row h2]
    have hlt := (List.getElem?_eq_some_iff.1 hk).1
    have : (cur.toList.take (l.length * 1))[k]? = (l.map scell)[k]? := by rw [h6]
    rw [List.getElem?_take_of_lt (by omega), List.getElem?_map, hk] at this
    simpa using this
set_option maxHeartbeats 2000000 in
set_option maxRecDepth 100000 in
theorem release_any {w : World} {base : Nat} {B : Tb} {m : Held} {N : Nat} (hT : TabIs w base B m N) (hN : N ≤ 281474976710656) {id : Int} (hid : In64 id) :
    Calls Try.prog 12 #[.pointer (some ⟨B.t, 0, none⟩), .int .i64 id] w fun e w' => e = .returned (.tuple #[]) ∧ ∃ B', TabIs w' base B' (freeH m id) N ∧ Moves B B' w w' := by
  have HT := hide hT
  have hrow := hT.row' id
  have HLK := hide (hT.lookOf' hid)
  have hnl := Nat.le_trans (hT.names_le id) hN
  obtain ⟨l, hl⟩ : ∃ l, B.nm id = l := ⟨_, rfl⟩
  obtain ⟨v, hv⟩ : ∃ v, (B.of id).getD (.slice none 0 0) = v := ⟨_, rfl⟩
  rw [hl] at hrow hnl
  rw [hv] at hrow HLK
  obtain ⟨ao, c, rfl⟩ := owns_len hrow
  have HROW := hide hrow
  obtain ⟨n, hn⟩ : ∃ n, l.length = n := ⟨_, rfl⟩
  rw [hn] at HLK hnl
  have HLN := hide hn
  have HL := hide hl
  have HND : Hid (l.Nodup) := by rw [← hl]; exact hT.nodup id
  have HNM : Hid (∀ s, s ∈ l ↔ m id s ≠ none) := fun s => by rw [← hl]; exact hT.names id s
  have HGD : Hid (∀ s, m id s ≠ none → NameOk s) := fun s hs => by
    cases h : m id s with
    | none => exact absurd h hs
    | some md => exact (hT.good id s md h).2.2
  have c1 := hT.cells1
  clear hT hl hv hrow hn hN
  go_enter Try.func12, Try.ntmps12
  go_wp2_with (first
    | (refine wpList_look rfl 54 _ _ false rfl _ _ _ rfl rfl HLK.out ?_))
  go_loopw [13] (fun i wr => ∃ (k : Nat) (on : List UInt8 → Option Nat), k ≤ n ∧ i = .int .i64 k ∧ RelIs w B N wr on (freeL m id (l.take k))) (fun i _ => n - (intOf i).toNat)
  case atStart =>
    refine ⟨0, B.on, by omega, rfl, ?_⟩
    rw [List.take_zero, freeL_nil]
    exact RelIs.start HT.out
  case round =>
    obtain ⟨k, on, hk, rfl, hR⟩ := hrel
    have hcb := hR.cellblk HT.out HT.out.cell
    have cc0 : wr.cell? ⟨B.t, 0, none⟩ = some (.map (some B.bo)) := by rw [cell_row hcb]; rfl
    have cc1 : wr.cell? ⟨B.t, 1, none⟩ = some (.map (some B.bf)) := by rw [cell_row hcb]; rfl
    by_cases hlt : k < n
    · obtain ⟨s, hs⟩ : ∃ s, l[k]? = some s := ⟨_, List.getElem?_eq_getElem (by rw [HLN.out]; exact hlt)⟩
      have HTK : Hid (l.take (k + 1) = l.take k ++ [s]) := by
        show _ = _
        obtain ⟨hl', hx'⟩ := List.getElem?_eq_some_iff.1 hs
        rw [← hx']
        exact List.take_succ_eq_append_getElem hl'
      have hsl : s ∈ l := List.mem_of_getElem? hs
      have hms : m id s ≠ none := (HNM.out s).1 hsl
      have hnm : NameOk s := HGD.out s hms
      have hnt : s ∉ l.take k := by
        intro hm
        have h2 := HND.out
        rw [← List.take_append_drop k l, List.nodup_append] at h2
        refine h2.2.2 s hm s ?_ rfl
        refine List.mem_iff_getElem?.2 ⟨0, ?_⟩
        rw [List.getElem?_drop]
        simpa using hs
      have hfs : freeL m id (l.take k) id s ≠ none := by
        unfold freeL
        simp [hnt]
        exact hms
      obtain ⟨b, hb⟩ : ∃ b, on s = some b := by
        cases hb : on s with
        | none => exact absurd (hR.non s hb id) hfs
        | some b => exact ⟨b, rfl⟩
      have hrowr : wr.ownsRow base 9 1 (.slice ao l.length c) l.length (l.map scell) := owns_stay HROW.out fun g hg => by
        obtain ⟨C, hC⟩ := row_block HROW.out hg
        rw [hR.cellblk HT.out hC, hC]
      obtain ⟨g, c', hsv, hcell⟩ := name_cell hrowr hs
      injection hsv with e1 _ _
      subst e1
      have hlkB : ∀ {w' : World}, MapV w' 9 B.bo N (ofS fun s => (on s).map fun b => .map (some b)) → (Instr.lookup 53 (.map (some B.bo)) (scell s) false).run Try.prog w' = .ok (.map (some b)) w' := fun {w'} hM => by
        have := hM.look keyed9 Try.underlying53 (zero63 w') (key9 hnm.max)
        unfold scell
        rw [this]
        show Result.ok (((on s).map fun b => Value.map (some b)).getD (.map none)) w' = _
        rw [hb]
        rfl
      obtain ⟨w1, q1, q2, q3⟩ := (hR.inner s b hb).drop keyed3 Try.underlying63 (key3 hid) 0
      obtain ⟨a1, a2, a3⟩ := hR.drop HT.out hb q2 q3
      obtain ⟨sz, z1, z2, z3⟩ := a2.len keyed3 Try.underlying63
      have HL0 := hide (hlkB hR.hon)
      have HL1 := hide (hlkB a1)
      have htb : B.t ≠ b := fun e => map_ne_cells (hR.inner s b hb) hcb e.symm
      have hcb1 : w1.heap[B.t]? = some (.cells #[.map (some B.bo), .map (some B.bf)] 56 (0, 0)) := (q3.block _ (lt_of_heap hcb) (by intro e; injection e with e; exact htb e)).trans hcb
      have k0 : w1.cell? ⟨B.t, 0, none⟩ = some (.map (some B.bo)) := by rw [cell_row hcb1]; rfl
      have z3' := z3 3
      have HR := hide hR
      have HQ2 := hide q2
      have HQ3 := hide q3
      have HHB := hide hb
      have HZ2 : Hid (sz = 0 ↔ ∀ x, freeL m id (l.take k ++ [s]) x s = none) := by
        refine z2.trans ⟨fun h x => ?_, fun h kl hk => ?_⟩
        · have h1 : (freeL m id (l.take k ++ [s]) x s).map (Value.int .i64) = none := h (.int .i64 x) (kl_int x)
          simpa using h1
        · cases kl with
          | int q x =>
            cases q <;> first | rfl | (show (freeL m id (l.take k ++ [s]) x s).map _ = none; rw [h x]; rfl)
          | _ => rfl
      by_cases hz : sz = 0
      · subst hz
        obtain ⟨w2, r1, r2, r3⟩ := a1.drop keyed9 Try.underlying53 (key9 hnm.max) 0
        have HR2 := hide r2
        have HR3 := hide r3
        clear hR q2 q3 a1 a2 a3 r2 r3 z1 z2 z3 hrowr hcb hcb1 hlkB hb hfs hnt htb hs hsl hms
        go_wp2_with (first
          | (refine wpList_look rfl 53 _ _ false rfl _ _ _ rfl rfl HL0.out ?_)
          | (refine wpList_look rfl 53 _ _ false rfl _ _ _ rfl rfl HL1.out ?_)
          | (refine wpList_delV rfl 63 3 _ _ rfl _ _ w1 rfl rfl q1 ?_)
          | (refine wpList_delV rfl 53 9 _ _ rfl _ _ w2 rfl rfl r1 ?_)
          | (refine wpList_lenV rfl 63 _ rfl _ _ rfl z3' ?_))
        go_roundw
        case rel =>
          refine ⟨k + 1, by omega, by go_num, fun t => if t = s then none else on t, ?_⟩
          rw [HTK.out]
          exact HR.out.gone HT.out HHB.out HQ2.out HQ3.out (HZ2.out.1 (by simp)) HR2.out HR3.out
        case measure => simp [intOf]; omega
      · have hz' : (sz : Int) ≠ 0 := by omega
        clear hR q2 q3 a1 a2 a3 z1 z2 z3 hrowr hcb hcb1 hlkB hb hfs hnt htb hs hsl hms
        go_wp2_with (first
          | (refine wpList_look rfl 53 _ _ false rfl _ _ _ rfl rfl HL0.out ?_)
          | (refine wpList_look rfl 53 _ _ false rfl _ _ _ rfl rfl HL1.out ?_)
          | (refine wpList_delV rfl 63 3 _ _ rfl _ _ w1 rfl rfl q1 ?_)
          | (refine wpList_lenV rfl 63 _ rfl _ _ rfl z3' ?_))
        go_roundw
        case rel =>
          refine ⟨k + 1, by omega, by go_num, on, ?_⟩
          rw [HTK.out]
          refine HR.out.keep HT.out HHB.out HQ2.out HQ3.out (Classical.byContradiction fun hc => hz (HZ2.out.2 fun x => Classical.byContradiction fun h => hc ⟨x, h⟩))
        case measure => simp [intOf]; omega
    · have hkn : k = n := by omega
      subst hkn
      have hfin : freeL m id (l.take k) = freeH m id := by
        rw [List.take_of_length_le (by rw [HLN.out]; omega)]
        exact freeL_all HNM.out
      rw [hfin] at hR
      have hof : MapV wr 3 B.bf N (ofI B.of) := HT.out.hof.stay (hR.block _ HT.out.hof.lt (Ne.symm HT.out.two) (fun s e => (HT.out.apart s _ e).2 rfl))
      obtain ⟨w1, q1, q2, q3⟩ := hof.drop keyed3 Try.underlying54 (key3 hid) 0
      have HF := hide (hR.fin HT.out q2 q3)
      clear hR hof q2 q3 hfin
      go_wp2_with (first
        | (refine wpList_delV rfl 54 3 _ _ rfl _ _ w1 rfl rfl q1 ?_))
      go_end0
      exact ⟨rfl, HF.out⟩
end Go.Proofs.Ytffjdjbjkjefoaa
