/- Held. -/
import Derived.Test.YtffjdjbjkjefoaaHld
import Derived.Test.YtffjdjbjkjefoaaRls
import Derived.Test.YtffjdjbjkjefoaaSrw
namespace Go.Proofs.Ytffjdjbjkjefoaa
open Go.RowKit Go.WideAt
set_option linter.unusedVariables false
set_option linter.unusedSimpArgs false

theorem Try.info31 : (Try.prog.info? 31).map (fun i => (i.zero, i.size, i.bytes)) = some (some (.agg #[.string ⟨#[]⟩, .int .i64 0]), 2, 24) := by kernel_rfl
theorem op_build2 (ρ : Operand → Value) (o : Oper) (x y : Operand) (ho : o.op = .build 31 #[(0, x), (1, y)]) (s : ByteArray) (n : Int) (hx : ρ x = .string s) (hy : ρ y = .int .i64 n) {w : World} : (execOp ρ o).run Try.prog w = .ok (.value (.agg #[.string s, .int .i64 n])) w := by
  unfold execOp
  simp only [ho, hx, hy]
  simp [hx, hy]
  kernel_rfl
theorem buildWantS (x : ByteArray) (n : Int) (w : World) : (Instr.buildSlice 22 1 #[(0, .agg #[.string x, .int .i64 n])]).run Try.prog w = .ok (.slice (some ⟨w.heap.size, 0, none⟩) 1 1) (w.alloc (.cells #[.string x, .int .i64 n] 31)) := by kernel_rfl
/-- What id holds, by rising names. -/
structure HeldIs (m : Held) (id : Int) (L : List (List UInt8 × Int)) : Prop where
  up : L.Pairwise (fun x y => blt x.1 y.1 = true)
  iff : ∀ s md, (s, md) ∈ L ↔ m id s = some md
theorem flatW_snoc (L : List (List UInt8 × Int)) (x : List UInt8 × Int) : flatW (L ++ [x]) = flatW L ++ [scell x.1, .int .i64 x.2] := by
  unfold flatW
  rw [List.flatMap_append]
  rfl
def withM (m : Held) (id : Int) (l : List (List UInt8)) : List (List UInt8 × Int) := l.map fun s => (s, (m id s).getD 0)
theorem heldIs_of {m : Held} {id : Int} {l : List (List UInt8)} {L : List (List UInt8 × Int)} (hn : l.Nodup) (hm : ∀ s, s ∈ l ↔ m id s ≠ none) (hp : L.Perm (withM m id l)) (hs : L.Pairwise (fun x y => blt y.1 x.1 = false)) : HeldIs m id L := by
  have hnm : (L.map Prod.fst).Nodup := by
    have h1 := hp.map Prod.fst
    have h2 : (withM m id l).map Prod.fst = l := by unfold withM; rw [List.map_map]; exact List.map_id _
    rw [h2] at h1
    exact h1.nodup_iff.2 hn
  refine ⟨?_, fun s md => ?_⟩
  · rw [List.pairwise_iff_getElem] at hs ⊢
    intro i j hi hj hij
    have h1 := hs i j hi hj hij
    cases h2 : blt L[i].1 L[j].1 with
    | true => rfl
    | false =>
      have e := blt_total h2 h1
      have h3 := List.pairwise_iff_getElem.1 hnm i j (by simpa using hi) (by simpa using hj) hij
      simp only [List.getElem_map] at h3
      exact absurd e h3
  · rw [hp.mem_iff]
    unfold withM
    rw [List.mem_map]
    constructor
    · rintro ⟨t, ht, e⟩
      injection e with e1 e2
      subst e1
      have := (hm t).1 ht
      cases h : m id t with
      | none => exact absurd h this
      | some x => rw [h] at e2; simp at e2; rw [e2]
    · intro h
      exact ⟨s, (hm s).2 (by rw [h]; simp), by rw [h]; rfl⟩
set_option maxHeartbeats 2000000 in
set_option maxRecDepth 100000 in
theorem held_any (HSN : ∀ w, Calls Try.prog 31 #[.slice none 0 0, .func (.func 32) #[] #[]] w fun e w' => e = .returned (.tuple #[]) ∧ w' = w) {w : World} {base : Nat} {B : Tb} {m : Held} {N : Nat} (hT : TabIs w base B m N) {id : Int} (hid : In64 id) (hN : (B.nm id).length ≤ 5864062014805) :
    Calls Try.prog 10 #[.pointer (some ⟨B.t, 0, none⟩), .int .i64 id] w fun e w' => ∃ v L, e = .returned v ∧ w'.ownsRow w.heap.size 31 2 v L.length (flatW L) ∧ HeldIs m id L ∧ L.length ≤ N ∧ Below w.heap.size w w' := by
  have HT := hide hT
  have HSNN := hide HSN
  have hrow := hT.row' id
  have HLK := hide (hT.lookOf' hid)
  have hnl0 := hT.names_le id
  have hnl := hN
  obtain ⟨l, hl⟩ : ∃ l, B.nm id = l := ⟨_, rfl⟩
  obtain ⟨v, hv⟩ : ∃ v, (B.of id).getD (.slice none 0 0) = v := ⟨_, rfl⟩
  rw [hl] at hrow hnl hnl0
  rw [hv] at hrow HLK
  obtain ⟨ao, c, rfl⟩ := owns_len hrow
  have HROW := hide hrow
  obtain ⟨n, hn⟩ : ∃ n, l.length = n := ⟨_, rfl⟩
  rw [hn] at HLK hnl hnl0
  have HLN := hide hn
  have HND : Hid (l.Nodup) := by rw [← hl]; exact hT.nodup id
  have HNM : Hid (∀ s, s ∈ l ↔ m id s ≠ none) := fun s => by rw [← hl]; exact hT.names id s
  have HGD : Hid (∀ s, m id s ≠ none → NameOk s) := fun s hs => by
    cases h : m id s with
    | none => exact absurd h hs
    | some md => exact (hT.good id s md h).2.2
  have HOWN : Hid (∀ k, B.own k → k < w.heap.size) := fun k hk => hT.lt (.inr hk)
  have HTL : Hid (B.t < w.heap.size) := hT.lt (.inl rfl)
  have c1 := hT.cells1
  clear hT hl hv hrow hn hN HSN
  go_enter Try.func10, Try.ntmps10
  go_wp2_with (first
    | (refine wpList_look rfl 54 _ _ false rfl _ _ _ rfl rfl HLK.out ?_))
  go_loopw [5, 15] (fun v i wr => ∃ (k : Nat), k ≤ n ∧ i = .int .i64 k ∧ wr.ownsRow w.heap.size 31 2 v k (flatW (withM m id (l.take k))) ∧ Below w.heap.size w wr ∧ Hid (k = 0 → v = .slice none 0 0)) (fun _ i _ => n - (intOf i).toNat)
  case atStart => exact ⟨0, by omega, rfl, ⟨rfl, .inl ⟨rfl, rfl⟩⟩, Below.refl _ _, fun _ => rfl⟩
  case round =>
    obtain ⟨k, hk, rfl, hR, hB, hZ⟩ := hrel
    by_cases hlt : k < n
    · obtain ⟨s, hs⟩ : ∃ s, l[k]? = some s := ⟨_, List.getElem?_eq_getElem (by rw [HLN.out]; exact hlt)⟩
      have HTK : Hid (l.take (k + 1) = l.take k ++ [s]) := by
        show _ = _
        obtain ⟨hl', hx'⟩ := List.getElem?_eq_some_iff.1 hs
        rw [← hx']
        exact List.take_succ_eq_append_getElem hl'
      have hnm : NameOk s := HGD.out s ((HNM.out s).1 (List.mem_of_getElem? hs))
      have hrowr : wr.ownsRow base 9 1 (.slice ao l.length c) l.length (l.map scell) := owns_below HROW.out hB (Nat.le_refl _)
      obtain ⟨g, c', hsv, hcell⟩ := name_cell hrowr hs
      injection hsv with e1 _ _
      subst e1
      have HTR : Hid (TabIs wr base B m N) := HT.out.belowW hB
      have HCL := hide (clone_any s hnm)
      have HR := hide hR
      have HB := hide hB
      clear hrowr hs hR hB
      go_upto_region 5 with fail
      refine wp_region_held_drew (S := fun w' => TabIs w' base B m N) (by kernel_rfl) (HTR.out.belowW (below_drewN _ _ 1)) (fun hH => ?_)
      refine take_to 0 19 (u5) rfl (by kernel_rfl) (by kernel_rfl) (by kernel_rfl) (fun _ _ _ h => h) rfl (by rfl) (fun w hw => by rfl) hH ?_
      simp only [Act.put, List.setIfInBounds_toArray, List.set_cons_zero, List.set_cons_succ]
      refine take_to 1 20 (scell s) rfl (by kernel_rfl) (by kernel_rfl) (by kernel_rfl) (fun _ _ _ h => h) rfl (by rfl) (fun w hw => by rfl) hH ?_
      simp only [Act.put, List.setIfInBounds_toArray, List.set_cons_zero, List.set_cons_succ]
      refine take_to 3 22 (.pointer (some ⟨B.t, 0, none⟩)) rfl (by kernel_rfl) (by kernel_rfl) (by kernel_rfl) (fun _ _ _ h => h) rfl (by rfl) (fun w hw => by rfl) hH ?_
      simp only [Act.put, List.setIfInBounds_toArray, List.set_cons_zero, List.set_cons_succ]
      refine take_to 4 23 (.pointer (some ⟨B.t, 0, none⟩)) rfl (by kernel_rfl) (by kernel_rfl) (by kernel_rfl) (fun _ _ _ h => h) rfl (by rfl) (fun w hw => by rfl) hH ?_
      simp only [Act.put, List.setIfInBounds_toArray, List.set_cons_zero, List.set_cons_succ]
      refine take_to 5 24 (.pointer (some ⟨B.t, 0, none⟩)) rfl (by kernel_rfl) (by kernel_rfl) (by kernel_rfl) (fun _ _ _ h => h) rfl (by rfl) (fun w hw => by rfl) hH ?_
      simp only [Act.put, List.setIfInBounds_toArray, List.set_cons_zero, List.set_cons_succ]
      refine take_to 6 25 (.map (some B.bo)) rfl (by kernel_rfl) (by kernel_rfl) (by kernel_rfl) (fun _ _ _ h => h) rfl (by rfl) (fun w hw => op_load _ _ 53 (.tmp 24) rfl (.pointer (some ⟨B.t, 0, none⟩)) _ rfl (run_loadAny w B.t 0 53 _ Try.isAgg53 hw.cells0)) hH ?_
      simp only [Act.put, List.setIfInBounds_toArray, List.set_cons_zero, List.set_cons_succ]
      refine take_to 7 26 (scell s) rfl (by kernel_rfl) (by kernel_rfl) (by kernel_rfl) (fun _ _ _ h => h) rfl (by rfl) (fun w hw => by rfl) hH ?_
      simp only [Act.put, List.setIfInBounds_toArray, List.set_cons_zero, List.set_cons_succ]
      refine take_to 8 27 (onV B s) rfl (by kernel_rfl) (by kernel_rfl) (by kernel_rfl) (fun _ _ _ h => h) rfl (by rfl) (fun w hw => op_lookup _ _ 53 (.tmp 25) (.tmp 26) false rfl _ _ _ rfl rfl (hw.lookOn hnm)) hH ?_
      simp only [Act.put, List.setIfInBounds_toArray, List.set_cons_zero, List.set_cons_succ]
      refine take_to 9 28 (.int .i64 id) rfl (by kernel_rfl) (by kernel_rfl) (by kernel_rfl) (fun _ _ _ h => h) rfl (by rfl) (fun w hw => by rfl) hH ?_
      simp only [Act.put, List.setIfInBounds_toArray, List.set_cons_zero, List.set_cons_succ]
      refine take_to 10 29 (.int .i64 ((m id s).getD 0)) rfl (by kernel_rfl) (by kernel_rfl) (by kernel_rfl) (fun _ _ _ h => h) rfl (by rfl) (fun w hw => op_lookup _ _ 63 (.tmp 27) (.tmp 28) false rfl _ _ _ rfl rfl (hw.lookIn s hid)) hH ?_
      simp only [Act.put, List.setIfInBounds_toArray, List.set_cons_zero, List.set_cons_succ]
      have hB2 : Below w.heap.size w wr.drew := HB.out.trans (below_drewN _ _ 1)
      have hR2 : wr.drew.ownsRow w.heap.size 31 2 u5 k (flatW (withM m id (l.take k))) := owns_below HR.out (below_drewN _ _ 1) (Nat.le_refl _)
      generalize wr.drew = w2 at *
      generalize hmd : (m id s).getD 0 = md
      refine step_call1_to 2 21 30 rfl (by kernel_rfl) rfl (by rfl) (.tmp 20) _ rfl _ rfl Try.enters30 (HCL.out _) ?_
      rintro e w3 ⟨rfl, hb3⟩
      have hT3 := hH.belowW hb3
      refine ⟨_, rfl, hT3, ?_⟩
      simp only [Act.put, List.setIfInBounds_toArray, List.set_cons_zero, List.set_cons_succ]
      refine step_to 11 30 (.agg #[.string (strOf s), .int .i64 md]) w3 rfl (by kernel_rfl) rfl (by rfl) (op_build2 _ _ (.tmp 21) (.tmp 29) rfl (strOf s) md rfl rfl) hT3 ?_
      simp only [Act.put, List.setIfInBounds_toArray, List.set_cons_zero, List.set_cons_succ]
      have hbs := buildWantS (strOf s) md w3
      obtain ⟨w4, hw4⟩ : ∃ w4, w3.alloc (.cells #[.string (strOf s), .int .i64 md] 31) = w4 := ⟨_, rfl⟩
      have hb4 : Below w3.heap.size w3 w4 := by rw [← hw4]; exact (Below.refl _ _).alloc (Nat.le_refl _) _
      have hnew : w4.heap[w3.heap.size]? = some (.cells #[.string (strOf s), .int .i64 md] 31 (0, 0)) := by rw [← hw4]; exact heap_alloc_new _ _
      rw [hw4] at hbs
      have hT4 := hT3.belowW hb4
      have hB4 : Below w.heap.size w w4 := (hB2.trans (hb3.mono hB2.size)).trans (hb4.mono (Nat.le_trans hB2.size hb3.size))
      have hR4 : w4.ownsRow w.heap.size 31 2 u5 k (flatW (withM m id (l.take k))) := owns_below (owns_below hR2 hb3 (Nat.le_refl _)) hb4 (Nat.le_refl _)
      have hrw : Row w4 (.slice (some ⟨w3.heap.size, 0, none⟩) 1 1) 1 [.string (strOf s), .int .i64 md] := ⟨_, 1, rfl, Nat.le_refl _, by simp only [maxLen]; omega, fun _ => ⟨w3.heap.size, 0, rfl, fun j u hu => by rw [Nat.zero_add, cell_row hnew]; simpa using hu⟩⟩
      refine step_to 12 31 (.slice (some ⟨w3.heap.size, 0, none⟩) 1 1) w4 rfl (by kernel_rfl) rfl (by rfl) (op_bslice _ _ 22 (.tmp 30) rfl _ _ rfl hbs) hT4 ?_
      simp only [Act.put, List.setIfInBounds_toArray, List.set_cons_zero, List.set_cons_succ]
      obtain ⟨v5, w5, a1, a2, a3⟩ := run_append_row (P := Try.prog) w4 w.heap.size 22 22 31 _ 2 24 Try.underlying22 Try.info31 rfl (by omega) u5 k _ hR4 _ 1 _ hrw rfl (by simp [Value.oneCell']) (by omega) (by omega) hB4.size
      have hT5 : TabIs w5 base B m N := hT4.stay fun j hj => a3.block j (hT4.lt hj) (fun e => by
        have h1 := (hR4.lt j e.symm).1
        rcases hj with rfl | hj
        · have := HTL.out; omega
        · have := HOWN.out j hj; omega)
      refine step_to 13 32 v5 w5 rfl (by kernel_rfl) rfl (by rfl) (op_append _ _ (.tmp 19) (.tmp 31) 22 rfl _ _ _ rfl rfl a1) hT5 ?_
      simp only [Act.put, List.setIfInBounds_toArray, List.set_cons_zero, List.set_cons_succ]
      refine step_to 14 5 v5 w5 rfl (by kernel_rfl) rfl (by rfl) (by rfl) hT5 ?_
      simp only [Act.put, List.setIfInBounds_toArray, List.set_cons_zero, List.set_cons_succ]
      refine wpAnyH_done (by kernel_rfl) ?_ _
      have HB5 : Hid (Below w.heap.size w w5) := hB4.grown a3 hB4.size (fun j e => (hR4.lt j e).1)
      have HR5 := hide a2
      have HMD := hide hmd
      clear hT5 a1 a2 a3 hrw hR4 hB4 hT4 hnew hb4 hw4 hbs hT3 hb3 hR2 hB2 hH hmd
      go_wp2
      go_roundw
      case rel =>
        refine ⟨k + 1, by omega, by go_num, ?_, HB5.out, fun h => absurd h (by omega)⟩
        have e1 : withM m id (l.take (k + 1)) = withM m id (l.take k) ++ [(s, md)] := by
          rw [HTK.out]
          unfold withM
          rw [List.map_append]
          show _ ++ [(s, (m id s).getD 0)] = _
          rw [HMD.out]
        rw [e1, flatW_snoc]
        exact HR5.out
      case measure => simp [intOf]; omega
    · have hkn : k = n := by omega
      subst hkn
      rw [List.take_of_length_le (by rw [HLN.out]; omega)] at hR
      have hwl : (withM m id l).length = k := by unfold withM; rw [List.length_map, HLN.out]
      have HB := hide hB
      by_cases hk0 : k = 0
      · subst hk0
        have hl0 : l = [] := List.eq_nil_of_length_eq_zero HLN.out
        have hu := hZ.out rfl
        have HL0 := hide hl0
        clear hR hB hwl hl0 hZ
        subst hu
        go_wp2_with (go_at_call 31; refine (HSNN.out _).mono ?_; rintro e w6 ⟨rfl, hw6⟩; have hw6 := hw6.symm; subst hw6)
        go_ret
        refine ⟨_, [], rfl, ⟨rfl, .inl ⟨rfl, rfl⟩⟩, ?_, Nat.zero_le _, HB.out⟩
        refine heldIs_of HND.out HNM.out ?_ List.Pairwise.nil
        rw [HL0.out]
        exact List.Perm.nil
      · have hR' : wr.ownsRow w.heap.size 31 2 u5 (withM m id l).length (flatW (withM m id l)) := by rw [hwl]; exact hR
        have HS := hide (sortW_any hR' (by omega) (fun e => by rw [e] at hwl; simp at hwl; omega))
        have HOB : Hid (∀ j, u5.ownBlock = some j → w.heap.size ≤ j) := fun j hj => (hR.lt j hj).1
        have HWL := hide hwl
        clear hR hR' hB hwl
        go_wp2_with (go_at_call 31; refine HS.out.mono ?_; rintro e w6 ⟨rfl, L, hp, hup, hr6, hg6⟩; have HP := hide hp; have HU := hide hup; have HR6 := hide hr6; have HG6 := hide hg6; clear hp hup hr6 hg6)
        go_ret
        refine ⟨_, L, rfl, HR6.out, heldIs_of HND.out HNM.out HP.out HU.out, ?_, HB.out.grown HG6.out HB.out.size HOB.out⟩
        rw [HP.out.length_eq, HWL.out]
        exact hnl0
end Go.Proofs.Ytffjdjbjkjefoaa
