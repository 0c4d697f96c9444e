/- Table: what bytes tell of a table. -/
import Derived.Test.YtplpchaceiogaaaDoorTst
namespace Go.Proofs.YtplpchaceiogaaaDoor
open Go.RowKit
set_option linter.unusedVariables false
set_option linter.unusedSimpArgs false
set_option maxRecDepth 100000

theorem Below.setRow' {b : Nat} {w0 w : World} (h : Below b w0 w) (r : Nat) (C : Array Value) (hr : b ≤ r) : Below b w0 (w.setRow r C) :=
  ⟨h.os, h.tape, h.output, by have := h.size; simpa [World.setRow] using this, fun k hk => by
    have e : (w.setRow r C).heap[k]? = w.heap[k]? := by
      have : r ≠ k := by omega
      simp [World.setRow, Array.getElem?_modify, this]
    exact e.trans (h.block k hk)⟩
theorem Tryd.under29t : Tryd.prog.underlying 29 = some (.struct (Tryd.prog.fieldsOf 29)) := by kernel_rfl
theorem Tryd.info3t : (Tryd.prog.info? 3).map (fun i => (i.zero, i.size, i.bytes)) = some (some (.int .i64 0), 1, 8) := by kernel_rfl
theorem Tryd.under25t : Tryd.prog.underlying 25 = some (.slice 24) := by kernel_rfl
theorem Tryd.under26t : Tryd.prog.underlying 26 = some (.slice 85) := by kernel_rfl
theorem Tryd.under27t : Tryd.prog.underlying 27 = some (.slice 3) := by kernel_rfl
theorem pC_step (nm : List UInt8) (n : Nat) (l : List Vl) (acc : List Cl) : pC nm (n + 1) l acc = (colV l).bind fun p => pC nm n p.2 (acc ++ [p.1]) := by
  unfold pC
  rw [manyV]
  cases colV l <;> rfl
theorem pI_step (nm : List UInt8) (cs : List Cl) (n : Nat) (l : List Vl) (acc : List Ix) : pI nm cs (n + 1) l acc = (idxV l).bind fun p => pI nm cs n p.2 (acc ++ [p.1]) := by
  unfold pI
  rw [manyV]
  cases idxV l <;> rfl
theorem pR_step (nm : List UInt8) (cs : List Cl) (is : List Ix) (hd : Int) (n : Nat) (l : List Vl) (acc : List Int) : pR nm cs is hd (n + 1) l acc = (rootV l).bind fun p => pR nm cs is hd n p.2 (acc ++ [p.1]) := by
  unfold pR
  rw [manyV]
  cases rootV l <;> rfl
theorem takeV_len {t : Int} {l : List Vl} {p : Vl × List Vl} (h : takeV t l = some p) : l.length = p.2.length + 1 := by
  rw [(takeV_some h).1]; rfl
theorem countV_len {l : List Vl} {p : Nat × List Vl} (h : countV l = some p) : l.length = p.2.length + 1 := by
  obtain ⟨q, h1, h2⟩ := bind_some' h
  split at h2
  · cases h2
  · injection h2 with h2
    subst h2
    exact takeV_len h1
theorem TsAt.lost {w0 w w' : World} {rb tb fb : Nat} {nm : List UInt8} {vc : Value} {cs : List Cl} {vi : Value} {is : List Ix} {hd : Int} {vr : Value} {rs : List Int} {l : List Vl} (h : TsAt w0 w rb tb fb nm vc cs vi is hd vr rs l) {fp : List Nat} (ho : Off fp w w') (hf : ∀ k ∈ fp, w0.heap.size ≤ k) (hr : rb ∉ fp) :
    Below w0.heap.size w0 w' ∧ w0.heap.size ≤ rb ∧ w'.heap[rb]? = some (.cells #[.string { data := #[] }, .slice none 0 0, .slice none 0 0, .int .i64 0, .slice none 0 0] 29 (0, 0)) :=
  ⟨h.below.trans (ho.below h.below.size hf), h.lr, (ho.block rb (lt_of_heap h.res) hr).trans h.res⟩
/-- What a fresh block hides. -/
theorem Off.fresh {fb cb : Nat} {a b c : World} (h : Off [fb] a b) (k : Off [fb, cb] b c) (hc : a.heap.size ≤ cb) : Off [fb] a c := h.trans k (by simp; exact .inr hc)
/-- What Table tells. -/
def TableEnd (w : World) (bs : List UInt8) (e : Ending) (w' : World) : Prop := Below w.heap.size w w' ∧ ((tabOf bs = none ∧ e = .returned (.tuple #[.agg #[.string { data := #[] }, .slice none 0 0, .slice none 0 0, .int .i64 0, .slice none 0 0], .bool false])) ∨ (∃ T p, tabOf bs = some T ∧ T.Few ∧ e = .returned (.tuple #[.agg (tbCells T p), .bool true]) ∧ TbAt w' T p))
set_option maxHeartbeats 16000000 in
theorem table26 {w : World} {v : Value} {bs : List UInt8} (h : Sl w v bs) (hl : bs.length ≤ 1048576) : Calls Tryd.prog 26 #[v] w (TableEnd w bs) := by
  obtain ⟨W0, hW0⟩ : ∃ W, ((w.alloc (.cells #[.string { data := #[] }, .slice none 0 0, .slice none 0 0, .int .i64 0, .slice none 0 0] 29)).alloc (.cells #[.string { data := #[] }, .slice none 0 0, .slice none 0 0, .int .i64 0, .slice none 0 0] 29)).alloc (.cells #[.int .i64 0] 3) = W := ⟨_, rfl⟩
  have hb0 : Below w.heap.size w W0 := by rw [← hW0]; exact (((Below.refl _ _).alloc (Nat.le_refl _) _).alloc (by simp) _).alloc (by simp; omega) _
  have hr0 : W0.heap[w.heap.size]? = some (.cells #[.string { data := #[] }, .slice none 0 0, .slice none 0 0, .int .i64 0, .slice none 0 0] 29 (0, 0)) := by
    rw [← hW0, Below.heap_alloc _ _ _ (by simp; omega), Below.heap_alloc _ _ _ (by simp)]
    exact heap_alloc_new w _
  have ht0 : W0.heap[w.heap.size + 1]? = some (.cells #[.string { data := #[] }, .slice none 0 0, .slice none 0 0, .int .i64 0, .slice none 0 0] 29 (0, 0)) := by
    rw [← hW0, Below.heap_alloc _ _ _ (by simp)]
    have := heap_alloc_new (w.alloc (.cells #[.string { data := #[] }, .slice none 0 0, .slice none 0 0, .int .i64 0, .slice none 0 0] 29)) (.cells #[.string { data := #[] }, .slice none 0 0, .slice none 0 0, .int .i64 0, .slice none 0 0] 29)
    simpa using this
  have hn0 : W0.heap[w.heap.size + 1 + 1]? = some (.cells #[.int .i64 0] 3 (0, 0)) := by
    rw [← hW0]
    have := heap_alloc_new ((w.alloc (.cells #[.string { data := #[] }, .slice none 0 0, .slice none 0 0, .int .i64 0, .slice none 0 0] 29)).alloc (.cells #[.string { data := #[] }, .slice none 0 0, .slice none 0 0, .int .i64 0, .slice none 0 0] 29)) (.cells #[.int .i64 0] 3)
    simpa using this
  have HS := hide (split_any (h.belowW hb0) (by omega))
  have HB0 := hide hb0
  have HR0 := hide hr0
  have HT0 := hide ht0
  have HN0 := hide hn0
  have HL := hide hl
  clear h hb0 hr0 ht0 hn0 hl
  go_enter Tryd.func26, Tryd.ntmps26
  go_wp2
  refine wp_scope_fwd 1 ?_
  go_upto_region 3 with fail
  try rw [hW0]
  clear hW0
  have HQ0 : Hid (w.heap.size ≤ w.heap.size ∧ w.heap.size ≤ w.heap.size + 1 ∧ w.heap.size ≤ w.heap.size + 1 + 1 ∧ w.heap.size ≠ w.heap.size + 1 ∧ w.heap.size ≠ w.heap.size + 1 + 1 ∧ w.heap.size + 1 ≠ w.heap.size + 1 + 1) := ⟨by omega, by omega, by omega, by omega, by omega, by omega⟩
  generalize hnb : w.heap.size + 1 + 1 = nb at *
  generalize htb : w.heap.size + 1 = tb at *
  generalize hrb : w.heap.size = rb at *
  have HB1 : Hid (Below w.heap.size w W0) := by rw [hrb]; exact HB0.out
  have HQ : Hid (w.heap.size ≤ rb ∧ w.heap.size ≤ tb ∧ w.heap.size ≤ nb ∧ rb ≠ tb ∧ rb ≠ nb ∧ tb ≠ nb) := by rw [hrb]; exact HQ0.out
  clear hnb htb hrb HB0 HQ0
  have HB0 := HB1
  clear HB1
  unfold SplitEnd at HS
  cases hsp : splitN bs.length bs [] with
  | none =>
    simp only [hsp] at HS
    have HTN : Hid (tabOf bs = none) := by unfold Hid tabOf; rw [hsp]; rfl
    clear hsp
    go_upto_region 4 with (go_at_call 35; refine HS.out.mono ?_; rintro e W1 ⟨rfl, hb1⟩; have HB1 := hide hb1; clear hb1)
    have HX : Hid (Below w.heap.size w (W1.alloc (.cells #[.slice none 0 0] 77)) ∧ w.heap.size ≤ rb ∧ (W1.alloc (.cells #[.slice none 0 0] 77)).heap[rb]? = some (.cells #[.string { data := #[] }, .slice none 0 0, .slice none 0 0, .int .i64 0, .slice none 0 0] 29 (0, 0))) := ⟨HB0.out.trans ((HB1.out.alloc HB1.out.size _).mono HB0.out.size), HQ.out.1, ((HB1.out.alloc HB1.out.size _).block rb (lt_of_heap HR0.out)).trans HR0.out⟩
    go_wp2
    go_step3
    refine ⟨_, rfl, ?_⟩
    go_wp2_with (refine wpList_store_tab rfl (.tmp 2) (.tmp 105) rfl rfl rb _ (.string { data := #[] }) (.slice none 0 0) (.slice none 0 0) (.int .i64 0) (.slice none 0 0) rfl rfl HX.out.2.2 rfl (by decide) ?_)
    rw [Exit.jumps_ret]
    refine bodyPost_ret (results_ct Tryd.results26 _ _ rb 29 _ (0, 0) _ rfl (setRow_heap _ _ _ _ _ _ HX.out.2.2) Tryd.under29t rfl Tryd.size29) rfl ?_
    exact ⟨Below.setRow' HX.out.1 _ _ HX.out.2.1, .inl ⟨HTN.out, rfl⟩⟩
  | some l =>
    simp only [hsp] at HS
    have HE : Hid (tabOf bs = pT l) := by unfold Hid tabOf; rw [hsp]; rfl
    have HLL : Hid (l.length ≤ 1048576) := by
      obtain ⟨m, e1, e2, _⟩ := splitN_sound _ _ _ _ hsp
      rw [List.nil_append] at e1
      subst e1
      have := len_join l
      rw [e2] at this
      exact Nat.le_trans this HL.out
    clear hsp HL
    go_upto_region 4 with (go_at_call 35; refine HS.out.mono ?_; rintro e W1 ⟨u, rfl, hV1⟩; have HV1 := hide hV1; clear hV1)
    obtain ⟨ao, c, rfl, hrow⟩ := RowB.of_vals HV1.out
    have HTS : Hid (TsAt w (W1.alloc (.cells #[.slice ao l.length c] 77)) rb tb W1.heap.size [] (.slice none 0 0) [] (.slice none 0 0) [] 0 (.slice none 0 0) [] l) := by
      have hbl := HV1.out.below.alloc HV1.out.below.size (.cells #[.slice ao l.length c] 77)
      have hob : Off [] W1 (W1.alloc (.cells #[.slice ao l.length c] 77)) := (Off.refl [] W1).alloc _
      exact ⟨HB0.out.trans (hbl.mono HB0.out.size), (hbl.block rb (lt_of_heap HR0.out)).trans HR0.out, (hbl.block tb (lt_of_heap HT0.out)).trans HT0.out, World.ownsRow_nil _ _ _ _, World.ownsRow_nil _ _ _ _, World.ownsRow_nil _ _ _ _,
        ⟨ao, c, heap_alloc_new W1 _, hrow.off hob (fun k hk => by cases hk)⟩, HQ.out.1, HQ.out.2.1, Nat.le_trans HB0.out.size HV1.out.below.size, HQ.out.2.2.2.1⟩
    have HN : Hid ((W1.alloc (.cells #[.slice ao l.length c] 77)).heap[nb]? = some (.cells #[.int .i64 0] 3 (0, 0))) := ((HV1.out.below.alloc HV1.out.below.size _).block nb (lt_of_heap HN0.out)).trans HN0.out
    clear hrow HV1 HB0 HR0 HT0 HN0 HS
    go_upto_region 6 with fail
    generalize W1.alloc (.cells #[.slice ao l.length c] 77) = W2 at *
    generalize W1.heap.size = fb at *
    have HT := hide HTS.out.box
    have HR := hide HTS.out.rd
    have HNE : Hid (rb ≠ fb ∧ tb ≠ fb ∧ nb ≠ fb ∧ w.heap.size ≤ fb) := ⟨HTS.out.sep.1.symm, HTS.out.sep.2.symm, fun e => by
      obtain ⟨x, hx⟩ := HTS.out.fbox
      rw [← e, HN.out] at hx
      simp at hx, HTS.out.lf⟩
    go_wp2_with fail
    refine (text46 (o := 0) HR.out HT.out (by simp) (by decide) (by decide)).mono ?_
    rintro e W3 hE
    unfold ReadEnd at hE
    cases h1 : takeV 2 l with
    | none =>
      simp only [h1] at hE
      obtain ⟨hO, rfl⟩ := hE
      have HTN : Hid (tabOf bs = none) := by unfold Hid; rw [HE.out]; simp [pT, h1]
      have HX := hide (HTS.out.lost hO (by simp; exact ⟨HNE.out.2.2.2, HQ.out.2.1⟩) (by simp; exact ⟨HNE.out.1, HQ.out.2.2.2.1⟩))
      clear hO h1
      go_wp2
      go_step3
      refine ⟨_, rfl, ?_⟩
      go_wp2_with (refine wpList_store_tab rfl (.tmp 2) (.tmp 105) rfl rfl rb _ (.string { data := #[] }) (.slice none 0 0) (.slice none 0 0) (.int .i64 0) (.slice none 0 0) rfl rfl HX.out.2.2 rfl (by decide) ?_)
      rw [Exit.jumps_ret]
      refine bodyPost_ret (results_ct Tryd.results26 _ _ rb 29 _ (0, 0) _ rfl (setRow_heap _ _ _ _ _ _ HX.out.2.2) Tryd.under29t rfl Tryd.size29) rfl ?_
      exact ⟨Below.setRow' HX.out.1 _ _ HX.out.2.1, .inl ⟨HTN.out, rfl⟩⟩
    | some a =>
      simp only [h1] at hE
      obtain ⟨hO, rfl, hR, hD⟩ := hE
      obtain ⟨V, r⟩ := a
      have HN3 : Hid (W3.heap[nb]? = some (.cells #[.int .i64 0] 3 (0, 0))) := (hO.block nb (lt_of_heap HN.out) (by simp; exact ⟨HNE.out.2.2.1, fun e => HQ.out.2.2.2.2.2 e.symm⟩)).trans HN.out
      have HTS3 : Hid (TsAt w W3 rb tb fb V.t (.slice none 0 0) [] (.slice none 0 0) [] 0 (.slice none 0 0) [] r) := HTS.out.readT hO hR hD
      have HR3 := hide hR
      have HLR : Hid (l.length = r.length + 1) := takeV_len h1
      clear hO hR hD HTS HN HT HR
      go_wp2_with fail
      refine (count47 HR3.out HN3.out).mono ?_
      rintro e W4 hE
      unfold CountEnd at hE
      cases h2 : countV r with
      | none =>
        simp only [h2] at hE
        obtain ⟨hO, rfl⟩ := hE
        have HTN : Hid (tabOf bs = none) := by unfold Hid; rw [HE.out]; simp [pT, h1, h2]
        have HX := hide (HTS3.out.lost hO (by simp; exact ⟨HNE.out.2.2.2, HQ.out.2.2.1⟩) (by simp; exact ⟨HNE.out.1, HQ.out.2.2.2.2.1⟩))
        clear hO h1 h2
        go_wp2
        go_step3
        refine ⟨_, rfl, ?_⟩
        go_wp2_with (refine wpList_store_tab rfl (.tmp 2) (.tmp 105) rfl rfl rb _ (.string { data := #[] }) (.slice none 0 0) (.slice none 0 0) (.int .i64 0) (.slice none 0 0) rfl rfl HX.out.2.2 rfl (by decide) ?_)
        rw [Exit.jumps_ret]
        refine bodyPost_ret (results_ct Tryd.results26 _ _ rb 29 _ (0, 0) _ rfl (setRow_heap _ _ _ _ _ _ HX.out.2.2) Tryd.under29t rfl Tryd.size29) rfl ?_
        exact ⟨Below.setRow' HX.out.1 _ _ HX.out.2.1, .inl ⟨HTN.out, rfl⟩⟩
      | some b =>
        simp only [h2] at hE
        obtain ⟨hO, rfl, hR, hD⟩ := hE
        obtain ⟨n, s⟩ := b
        have HTS4 : Hid (TsAt w W4 rb tb fb V.t (.slice none 0 0) [] (.slice none 0 0) [] 0 (.slice none 0 0) [] s) := HTS3.out.readN HN3.out HQ.out.2.2.1 hO hR
        have HN4 := hide hD
        have HLS : Hid (s.length ≤ 1048576) := by have := countV_len h2; have := HLR.out; have := HLL.out; simp only at *; unfold Hid; omega
        have HE4 : Hid (tabOf bs = pC V.t n s []) := by unfold Hid; rw [HE.out]; simp [pT, h1, h2]
        have cn : W4.cell? ⟨nb, 0, none⟩ = some (.int .i64 (n : Int)) := by rw [cell_row hD]; rfl
        clear hO hR hD h1 h2 HTS3 HN3 HR3 HE HLL HLR
        go_wp2
        clear cn
        generalize V.t = nm at *
        go_loopw [29] (fun i wr => ∃ (k : Nat) (vc : Value) (cs : List Cl) (l : List Vl), k ≤ n ∧ i = .int .i64 (k : Int) ∧ cs.length = k ∧ k + l.length ≤ 1048576 ∧ tabOf bs = pC nm (n - k) l cs ∧ TsAt w wr rb tb fb nm vc cs (.slice none 0 0) [] 0 (.slice none 0 0) [] l ∧ wr.heap[nb]? = some (.cells #[.int .i64 (n : Int)] 3 (0, 0))) (fun i _ => n - (intOf i).toNat)
        case atStart => exact ⟨0, _, [], s, Nat.zero_le _, rfl, rfl, by have := HLS.out; omega, HE4.out, HTS4.out, HN4.out⟩
        case round =>
          clear HTS4 HN4 HE4 HLS
          obtain ⟨k, vc, cs, l, hk, rfl, hck, hkl, hE, hTS, hN⟩ := hrel
          have HE := hide hE
          have HTS := hide hTS
          have HN := hide hN
          clear hN
          have HCK := hide hck
          have HKL := hide hkl
          clear hE hTS hck hkl
          by_cases hlt : k < n
          · obtain ⟨m, hm⟩ : ∃ m, n - k = m + 1 := ⟨n - k - 1, by omega⟩
            have HM : Hid (n - (k + 1) = m) := by unfold Hid; omega
            have HE1 : Hid (tabOf bs = (colV l).bind fun p => pC nm m p.2 (cs ++ [p.1])) := by unfold Hid; rw [HE.out, hm, pC_step]
            have hkb : k ≤ 1048576 := by have := HKL.out; omega
            clear hm HE
            go_upto_region 10 with fail
            have HRb : Hid (Rd (wr.alloc (.cells #[.string { data := #[] }, .int .i64 0, .bool false, .bool false] 24)) fb l) := (HTS.out.alloc _).rd
            have HD0 : Hid ((wr.alloc (.cells #[.string { data := #[] }, .int .i64 0, .bool false, .bool false] 24)).heap[wr.heap.size]? = some (.cells #[.string { data := #[] }, .int .i64 0, .bool false, .bool false] 24 (0, 0))) := heap_alloc_new _ _
            have HO0 : Hid (Off [fb] wr (wr.alloc (.cells #[.string { data := #[] }, .int .i64 0, .bool false, .bool false] 24))) := (Off.refl _ _).alloc _
            generalize wr.alloc (.cells #[.string { data := #[] }, .int .i64 0, .bool false, .bool false] 24) = W5 at *
            generalize hcb : wr.heap.size = cb at *
            have HCB2 : Hid (wr.heap.size ≤ cb) := by rw [hcb]; exact Nat.le_refl _
            clear hcb
            go_wp2_with fail
            refine (text46 (o := 0) HRb.out HD0.out (by simp) (by decide) (by decide)).mono ?_
            rintro e Wc0 hE
            unfold ReadEnd at hE
            cases g0 : takeV 2 l with
            | none =>
              simp only [g0] at hE
              obtain ⟨hO, rfl⟩ := hE
              have HTN : Hid (tabOf bs = none) := by unfold Hid; rw [HE1.out]; simp [colV, g0]
              have HX := hide (HTS.out.lost (HO0.out.fresh hO HCB2.out) (by simp; exact HNE.out.2.2.2) (by simp; exact HNE.out.1))
              clear hO g0
              go_wp2
              go_step3
              refine ⟨_, rfl, ?_⟩
              go_wp2_with (refine wpList_store_tab rfl (.tmp 2) (.tmp 105) rfl rfl rb _ (.string { data := #[] }) (.slice none 0 0) (.slice none 0 0) (.int .i64 0) (.slice none 0 0) rfl rfl HX.out.2.2 rfl (by decide) ?_)
              rw [Exit.jumps_ret]
              refine bodyPost_ret (results_ct Tryd.results26 _ _ rb 29 _ (0, 0) _ rfl (setRow_heap _ _ _ _ _ _ HX.out.2.2) Tryd.under29t rfl Tryd.size29) rfl ?_
              exact ⟨Below.setRow' HX.out.1 _ _ HX.out.2.1, .inl ⟨HTN.out, rfl⟩⟩
            | some a0 =>
              simp only [g0] at hE
              obtain ⟨hO, rfl, hR, hD⟩ := hE
              obtain ⟨V0, r0⟩ := a0
              have HO1 : Hid (Off [fb] wr Wc0) := HO0.out.fresh hO HCB2.out
              have HD1 : Hid (Wc0.heap[cb]? = some (.cells #[.string (strOf V0.t), .int .i64 0, .bool false, .bool false] 24 (0, 0))) := hD
              have HR1 := hide hR
              clear hO hR hD HO0 HD0 HRb
              go_wp2_with fail
              refine (num48 (o := 1) HR1.out HD1.out (by simp) (by decide) (by decide)).mono ?_
              rintro e Wc1 hE
              unfold ReadEnd at hE
              cases g1 : takeV 1 r0 with
              | none =>
                simp only [g1] at hE
                obtain ⟨hO, rfl⟩ := hE
                have HTN : Hid (tabOf bs = none) := by unfold Hid; rw [HE1.out]; simp [colV, g0, g1]
                have HX := hide (HTS.out.lost (HO1.out.fresh hO HCB2.out) (by simp; exact HNE.out.2.2.2) (by simp; exact HNE.out.1))
                clear hO g0 g1
                go_wp2
                go_step3
                refine ⟨_, rfl, ?_⟩
                go_wp2_with (refine wpList_store_tab rfl (.tmp 2) (.tmp 105) rfl rfl rb _ (.string { data := #[] }) (.slice none 0 0) (.slice none 0 0) (.int .i64 0) (.slice none 0 0) rfl rfl HX.out.2.2 rfl (by decide) ?_)
                rw [Exit.jumps_ret]
                refine bodyPost_ret (results_ct Tryd.results26 _ _ rb 29 _ (0, 0) _ rfl (setRow_heap _ _ _ _ _ _ HX.out.2.2) Tryd.under29t rfl Tryd.size29) rfl ?_
                exact ⟨Below.setRow' HX.out.1 _ _ HX.out.2.1, .inl ⟨HTN.out, rfl⟩⟩
              | some a1 =>
                simp only [g1] at hE
                obtain ⟨hO, rfl, hR, hD⟩ := hE
                obtain ⟨V1, r1⟩ := a1
                have HO2 : Hid (Off [fb] wr Wc1) := HO1.out.fresh hO HCB2.out
                have HD2 : Hid (Wc1.heap[cb]? = some (.cells #[.string (strOf V0.t), .int .i64 V1.n, .bool false, .bool false] 24 (0, 0))) := hD
                have HR2 := hide hR
                clear hO hR hD HO1 HD1 HR1
                go_wp2_with fail
                refine (bool49 (o := 2) HR2.out HD2.out (by simp) (by decide) (by decide)).mono ?_
                rintro e Wc2 hE
                unfold ReadEnd at hE
                cases g2 : takeV 3 r1 with
                | none =>
                  simp only [g2] at hE
                  obtain ⟨hO, rfl⟩ := hE
                  have HTN : Hid (tabOf bs = none) := by unfold Hid; rw [HE1.out]; simp [colV, g0, g1, g2]
                  have HX := hide (HTS.out.lost (HO2.out.fresh hO HCB2.out) (by simp; exact HNE.out.2.2.2) (by simp; exact HNE.out.1))
                  clear hO g0 g1 g2
                  go_wp2
                  go_step3
                  refine ⟨_, rfl, ?_⟩
                  go_wp2_with (refine wpList_store_tab rfl (.tmp 2) (.tmp 105) rfl rfl rb _ (.string { data := #[] }) (.slice none 0 0) (.slice none 0 0) (.int .i64 0) (.slice none 0 0) rfl rfl HX.out.2.2 rfl (by decide) ?_)
                  rw [Exit.jumps_ret]
                  refine bodyPost_ret (results_ct Tryd.results26 _ _ rb 29 _ (0, 0) _ rfl (setRow_heap _ _ _ _ _ _ HX.out.2.2) Tryd.under29t rfl Tryd.size29) rfl ?_
                  exact ⟨Below.setRow' HX.out.1 _ _ HX.out.2.1, .inl ⟨HTN.out, rfl⟩⟩
                | some a2 =>
                  simp only [g2] at hE
                  obtain ⟨hO, rfl, hR, hD⟩ := hE
                  obtain ⟨V2, r2⟩ := a2
                  have HO3 : Hid (Off [fb] wr Wc2) := HO2.out.fresh hO HCB2.out
                  have HD3 : Hid (Wc2.heap[cb]? = some (.cells #[.string (strOf V0.t), .int .i64 V1.n, .bool V2.b, .bool false] 24 (0, 0))) := hD
                  have HR3 := hide hR
                  clear hO hR hD HO2 HD2 HR2
                  go_wp2_with fail
                  refine (bool49 (o := 3) HR3.out HD3.out (by simp) (by decide) (by decide)).mono ?_
                  rintro e Wc3 hE
                  unfold ReadEnd at hE
                  cases g3 : takeV 3 r2 with
                  | none =>
                    simp only [g3] at hE
                    obtain ⟨hO, rfl⟩ := hE
                    have HTN : Hid (tabOf bs = none) := by unfold Hid; rw [HE1.out]; simp [colV, g0, g1, g2, g3]
                    have HX := hide (HTS.out.lost (HO3.out.fresh hO HCB2.out) (by simp; exact HNE.out.2.2.2) (by simp; exact HNE.out.1))
                    clear hO g0 g1 g2 g3
                    go_wp2
                    go_step3
                    refine ⟨_, rfl, ?_⟩
                    go_wp2_with (refine wpList_store_tab rfl (.tmp 2) (.tmp 105) rfl rfl rb _ (.string { data := #[] }) (.slice none 0 0) (.slice none 0 0) (.int .i64 0) (.slice none 0 0) rfl rfl HX.out.2.2 rfl (by decide) ?_)
                    rw [Exit.jumps_ret]
                    refine bodyPost_ret (results_ct Tryd.results26 _ _ rb 29 _ (0, 0) _ rfl (setRow_heap _ _ _ _ _ _ HX.out.2.2) Tryd.under29t rfl Tryd.size29) rfl ?_
                    exact ⟨Below.setRow' HX.out.1 _ _ HX.out.2.1, .inl ⟨HTN.out, rfl⟩⟩
                  | some a3 =>
                    simp only [g3] at hE
                    obtain ⟨hO, rfl, hR, hD⟩ := hE
                    obtain ⟨V3, r3⟩ := a3
                    have HO4 : Hid (Off [fb] wr Wc3) := HO3.out.fresh hO HCB2.out
                    have HD4 : Hid (Wc3.heap[cb]? = some (.cells #[.string (strOf V0.t), .int .i64 V1.n, .bool V2.b, .bool V3.b] 24 (0, 0))) := hD
                    have HR4 := hide hR
                    clear hO hR hD HO3 HD3 HR3
                    have HE2 : Hid (tabOf bs = pC nm m r3 (cs ++ [⟨V0.t, V1.n, V2.b, V3.b⟩])) := by unfold Hid; rw [HE1.out]; simp [colV, g0, g1, g2, g3]
                    have HLR : Hid (l.length = r3.length + 4) := by have h0 := takeV_len g0; have h1 := takeV_len g1; have h2 := takeV_len g2; have h3 := takeV_len g3; simp only at h0 h1 h2 h3; unfold Hid; omega
                    have HTS2 := hide (HTS.out.read HO4.out HR4.out)
                    have HN2 : Hid (Wc3.heap[nb]? = some (.cells #[.int .i64 (n : Int)] 3 (0, 0))) := (HO4.out.block nb (lt_of_heap HN.out) (by simp; exact HNE.out.2.2.1)).trans HN.out
                    have ct : Wc3.cell? ⟨tb, 1, none⟩ = some vc := by rw [cell_row HTS2.out.box]; rfl
                    have c0 : Wc3.cell? ⟨cb, 0, none⟩ = some (.string (strOf V0.t)) := by rw [cell_row HD4.out]; rfl
                    have c1 : Wc3.cell? ⟨cb, 1, none⟩ = some (.int .i64 V1.n) := by rw [cell_row HD4.out]; rfl
                    have c2 : Wc3.cell? ⟨cb, 2, none⟩ = some (.bool V2.b) := by rw [cell_row HD4.out]; rfl
                    have c3 : Wc3.cell? ⟨cb, 3, none⟩ = some (.bool V3.b) := by rw [cell_row HD4.out]; rfl
                    clear g0 g1 g2 g3 HTS HO4 HE1 HN HR4 HD4 HCB2
                    obtain ⟨cv0, cv1, rfl⟩ := owns_len HTS2.out.oc
                    generalize V0.t = x0 at *
                    generalize V1.n = x1 at *
                    generalize V2.b = x2 at *
                    generalize V3.b = x3 at *
                    go_wp2_with (refine wpList_append_any 25 24 4 32 _ Tryd.under25t Tryd.info24 rfl (by omega) (by omega) rfl (.tmp 50) (.tmp 52) rfl w.heap.size _ _ cs.length (clsCells cs) (clCells ⟨x0, x1, x2, x3⟩) rfl rfl (HTS2.out.alloc _).oc (row_new Wc3 24 (clCells ⟨x0, x1, x2, x3⟩)) rfl (by intro u hu; simp [clCells, ixCells, icell] at hu; rcases hu with rfl | rfl | rfl | rfl <;> rfl) (by have := HKL.out; have := HCK.out; omega) (HTS2.out.alloc (.cells #[.string (strOf x0), .int .i64 x1, .bool x2, .bool x3] 24)).below.size ?_; intro u7 W7 ho7 hg7; have HO7 := hide ho7; have HG7 := hide hg7; clear ho7 hg7; obtain ⟨cv3, cv4, rfl⟩ := owns_len HO7.out; have HB7 := hide (grown_rec (HTS2.out.alloc (.cells #[.string (strOf x0), .int .i64 x1, .bool x2, .bool x3] 24)).oc HG7.out (HTS2.out.alloc _).box (by decide)); have hcd : W7.cell? ⟨tb, 1, none⟩ = some (.slice cv0 cs.length cv1) := (by rw [cell_row HB7.out]; rfl); have hfz := frozen_row (o := 1) HB7.out; clear ct c0 c1 c2 c3)
                    go_roundw
                    case rel =>
                      have hts := (HTS2.out.alloc (.cells #[.string (strOf x0), .int .i64 x1, .bool x2, .bool x3] 24)).growC ⟨x0, x1, x2, x3⟩ HO7.out HG7.out
                      have hn7 : (W7.setCell ⟨tb, 1, none⟩ (.slice cv3 (cs.length + 1) cv4)).heap[nb]? = some (.cells #[.int .i64 (n : Int)] 3 (0, 0)) := (Below.heap_setCell _ _ _ _ (fun e => HQ.out.2.2.2.2.2 e.symm)).trans (grown_rec (HTS2.out.alloc _).oc HG7.out ((Below.heap_alloc _ _ _ (lt_of_heap HN2.out)).trans HN2.out) (by decide))
                      exact ⟨k + 1, _, _, r3, by omega, by go_num, by simp [HCK.out], by have := HLR.out; have := HKL.out; omega, by rw [HM.out]; exact HE2.out, hts, hn7⟩
                    case measure => simp [intOf]; omega
          · have hkn : k = n := by omega
            subst hkn
            have HE1 : Hid (tabOf bs = pJ nm cs l) := by unfold Hid; rw [HE.out, Nat.sub_self]; rfl
            clear HE
            have HCL : Hid (cs.length ≤ 1048576) := by have := HKL.out; have := HCK.out; unfold Hid; omega
            have HLX : Hid (l.length ≤ 1048576) := by have := HKL.out; unfold Hid; omega
            clear HKL HCK
            go_wp2_with fail
            refine (count47 HTS.out.rd HN.out).mono ?_
            rintro e Wd hE
            unfold CountEnd at hE
            cases h2 : countV l with
            | none =>
              simp only [h2] at hE
              obtain ⟨hO, rfl⟩ := hE
              have HTN : Hid (tabOf bs = none) := by unfold Hid; rw [HE1.out]; simp [pJ, pH, h2]
              have HX := hide (HTS.out.lost hO (by simp; exact ⟨HNE.out.2.2.2, HQ.out.2.2.1⟩) (by simp; exact ⟨HNE.out.1, HQ.out.2.2.2.2.1⟩))
              clear hO h2
              go_wp2
              go_step3
              refine ⟨_, rfl, ?_⟩
              go_wp2_with (refine wpList_store_tab rfl (.tmp 2) (.tmp 105) rfl rfl rb _ (.string { data := #[] }) (.slice none 0 0) (.slice none 0 0) (.int .i64 0) (.slice none 0 0) rfl rfl HX.out.2.2 rfl (by decide) ?_)
              rw [Exit.jumps_ret]
              refine bodyPost_ret (results_ct Tryd.results26 _ _ rb 29 _ (0, 0) _ rfl (setRow_heap _ _ _ _ _ _ HX.out.2.2) Tryd.under29t rfl Tryd.size29) rfl ?_
              exact ⟨Below.setRow' HX.out.1 _ _ HX.out.2.1, .inl ⟨HTN.out, rfl⟩⟩
            | some b =>
              simp only [h2] at hE
              obtain ⟨hO, rfl, hR, hD⟩ := hE
              obtain ⟨n2, s2⟩ := b
              have HTS4 := hide (HTS.out.readN HN.out HQ.out.2.2.1 hO hR)
              have HN4 := hide hD
              have HLS : Hid (s2.length ≤ 1048576) := by have := countV_len h2; have := HLX.out; simp only at *; unfold Hid; omega
              have HE4 : Hid (tabOf bs = pI nm cs n2 s2 []) := by unfold Hid; rw [HE1.out]; simp [pJ, pH, h2]
              have cn : Wd.cell? ⟨nb, 0, none⟩ = some (.int .i64 (n2 : Int)) := by rw [cell_row hD]; rfl
              clear hO hR hD h2 HTS HN HE1 HLX
              go_wp2
              clear cn
              go_loopw [59] (fun i wr => ∃ (k : Nat) (vi : Value) (is : List Ix) (l : List Vl), k ≤ n2 ∧ i = .int .i64 (k : Int) ∧ is.length = k ∧ k + l.length ≤ 1048576 ∧ tabOf bs = pI nm cs (n2 - k) l is ∧ TsAt w wr rb tb fb nm vc cs vi is 0 (.slice none 0 0) [] l ∧ wr.heap[nb]? = some (.cells #[.int .i64 (n2 : Int)] 3 (0, 0))) (fun i _ => n2 - (intOf i).toNat)
              case atStart => exact ⟨0, _, [], s2, Nat.zero_le _, rfl, rfl, by have := HLS.out; omega, HE4.out, HTS4.out, HN4.out⟩
              case round =>
                clear HTS4 HN4 HE4 HLS
                obtain ⟨k, vi, is, l, hk, rfl, hck, hkl, hE, hTS, hN⟩ := hrel
                have HE := hide hE
                have HTS := hide hTS
                have HN := hide hN
                clear hN
                have HCK := hide hck
                have HKL := hide hkl
                clear hE hTS hck hkl
                by_cases hlt : k < n2
                · obtain ⟨m, hm⟩ : ∃ m, n2 - k = m + 1 := ⟨n2 - k - 1, by omega⟩
                  have HM : Hid (n2 - (k + 1) = m) := by unfold Hid; omega
                  have HE1 : Hid (tabOf bs = (idxV l).bind fun p => pI nm cs m p.2 (is ++ [p.1])) := by unfold Hid; rw [HE.out, hm, pI_step]
                  have hkb : k ≤ 1048576 := by have := HKL.out; omega
                  clear hm HE
                  go_upto_region 17 with fail
                  have HRb : Hid (Rd (wr.alloc (.cells #[.string { data := #[] }, .int .i64 0, .bool false] 85)) fb l) := (HTS.out.alloc _).rd
                  have HD0 : Hid ((wr.alloc (.cells #[.string { data := #[] }, .int .i64 0, .bool false] 85)).heap[wr.heap.size]? = some (.cells #[.string { data := #[] }, .int .i64 0, .bool false] 85 (0, 0))) := heap_alloc_new _ _
                  have HO0 : Hid (Off [fb] wr (wr.alloc (.cells #[.string { data := #[] }, .int .i64 0, .bool false] 85))) := (Off.refl _ _).alloc _
                  generalize wr.alloc (.cells #[.string { data := #[] }, .int .i64 0, .bool false] 85) = W5 at *
                  generalize hcb : wr.heap.size = cb at *
                  have HCB2 : Hid (wr.heap.size ≤ cb) := by rw [hcb]; exact Nat.le_refl _
                  clear hcb
                  go_wp2_with fail
                  refine (text46 (o := 0) HRb.out HD0.out (by simp) (by decide) (by decide)).mono ?_
                  rintro e Wc0 hE
                  unfold ReadEnd at hE
                  cases g0 : takeV 2 l with
                  | none =>
                    simp only [g0] at hE
                    obtain ⟨hO, rfl⟩ := hE
                    have HTN : Hid (tabOf bs = none) := by unfold Hid; rw [HE1.out]; simp [idxV, g0]
                    have HX := hide (HTS.out.lost (HO0.out.fresh hO HCB2.out) (by simp; exact HNE.out.2.2.2) (by simp; exact HNE.out.1))
                    clear hO g0
                    go_wp2
                    go_step3
                    refine ⟨_, rfl, ?_⟩
                    go_wp2_with (refine wpList_store_tab rfl (.tmp 2) (.tmp 105) rfl rfl rb _ (.string { data := #[] }) (.slice none 0 0) (.slice none 0 0) (.int .i64 0) (.slice none 0 0) rfl rfl HX.out.2.2 rfl (by decide) ?_)
                    rw [Exit.jumps_ret]
                    refine bodyPost_ret (results_ct Tryd.results26 _ _ rb 29 _ (0, 0) _ rfl (setRow_heap _ _ _ _ _ _ HX.out.2.2) Tryd.under29t rfl Tryd.size29) rfl ?_
                    exact ⟨Below.setRow' HX.out.1 _ _ HX.out.2.1, .inl ⟨HTN.out, rfl⟩⟩
                  | some a0 =>
                    simp only [g0] at hE
                    obtain ⟨hO, rfl, hR, hD⟩ := hE
                    obtain ⟨V0, r0⟩ := a0
                    have HO1 : Hid (Off [fb] wr Wc0) := HO0.out.fresh hO HCB2.out
                    have HD1 : Hid (Wc0.heap[cb]? = some (.cells #[.string (strOf V0.t), .int .i64 0, .bool false] 85 (0, 0))) := hD
                    have HR1 := hide hR
                    clear hO hR hD HO0 HD0 HRb
                    go_wp2_with fail
                    refine (num48 (o := 1) HR1.out HD1.out (by simp) (by decide) (by decide)).mono ?_
                    rintro e Wc1 hE
                    unfold ReadEnd at hE
                    cases g1 : takeV 1 r0 with
                    | none =>
                      simp only [g1] at hE
                      obtain ⟨hO, rfl⟩ := hE
                      have HTN : Hid (tabOf bs = none) := by unfold Hid; rw [HE1.out]; simp [idxV, g0, g1]
                      have HX := hide (HTS.out.lost (HO1.out.fresh hO HCB2.out) (by simp; exact HNE.out.2.2.2) (by simp; exact HNE.out.1))
                      clear hO g0 g1
                      go_wp2
                      go_step3
                      refine ⟨_, rfl, ?_⟩
                      go_wp2_with (refine wpList_store_tab rfl (.tmp 2) (.tmp 105) rfl rfl rb _ (.string { data := #[] }) (.slice none 0 0) (.slice none 0 0) (.int .i64 0) (.slice none 0 0) rfl rfl HX.out.2.2 rfl (by decide) ?_)
                      rw [Exit.jumps_ret]
                      refine bodyPost_ret (results_ct Tryd.results26 _ _ rb 29 _ (0, 0) _ rfl (setRow_heap _ _ _ _ _ _ HX.out.2.2) Tryd.under29t rfl Tryd.size29) rfl ?_
                      exact ⟨Below.setRow' HX.out.1 _ _ HX.out.2.1, .inl ⟨HTN.out, rfl⟩⟩
                    | some a1 =>
                      simp only [g1] at hE
                      obtain ⟨hO, rfl, hR, hD⟩ := hE
                      obtain ⟨V1, r1⟩ := a1
                      have HO2 : Hid (Off [fb] wr Wc1) := HO1.out.fresh hO HCB2.out
                      have HD2 : Hid (Wc1.heap[cb]? = some (.cells #[.string (strOf V0.t), .int .i64 V1.n, .bool false] 85 (0, 0))) := hD
                      have HR2 := hide hR
                      clear hO hR hD HO1 HD1 HR1
                      go_wp2_with fail
                      refine (bool49 (o := 2) HR2.out HD2.out (by simp) (by decide) (by decide)).mono ?_
                      rintro e Wc2 hE
                      unfold ReadEnd at hE
                      cases g2 : takeV 3 r1 with
                      | none =>
                        simp only [g2] at hE
                        obtain ⟨hO, rfl⟩ := hE
                        have HTN : Hid (tabOf bs = none) := by unfold Hid; rw [HE1.out]; simp [idxV, g0, g1, g2]
                        have HX := hide (HTS.out.lost (HO2.out.fresh hO HCB2.out) (by simp; exact HNE.out.2.2.2) (by simp; exact HNE.out.1))
                        clear hO g0 g1 g2
                        go_wp2
                        go_step3
                        refine ⟨_, rfl, ?_⟩
                        go_wp2_with (refine wpList_store_tab rfl (.tmp 2) (.tmp 105) rfl rfl rb _ (.string { data := #[] }) (.slice none 0 0) (.slice none 0 0) (.int .i64 0) (.slice none 0 0) rfl rfl HX.out.2.2 rfl (by decide) ?_)
                        rw [Exit.jumps_ret]
                        refine bodyPost_ret (results_ct Tryd.results26 _ _ rb 29 _ (0, 0) _ rfl (setRow_heap _ _ _ _ _ _ HX.out.2.2) Tryd.under29t rfl Tryd.size29) rfl ?_
                        exact ⟨Below.setRow' HX.out.1 _ _ HX.out.2.1, .inl ⟨HTN.out, rfl⟩⟩
                      | some a2 =>
                        simp only [g2] at hE
                        obtain ⟨hO, rfl, hR, hD⟩ := hE
                        obtain ⟨V2, r2⟩ := a2
                        have HO3 : Hid (Off [fb] wr Wc2) := HO2.out.fresh hO HCB2.out
                        have HD3 : Hid (Wc2.heap[cb]? = some (.cells #[.string (strOf V0.t), .int .i64 V1.n, .bool V2.b] 85 (0, 0))) := hD
                        have HR3 := hide hR
                        clear hO hR hD HO2 HD2 HR2
                        have HE2 : Hid (tabOf bs = pI nm cs m r2 (is ++ [⟨V0.t, V1.n, V2.b⟩])) := by unfold Hid; rw [HE1.out]; simp [idxV, g0, g1, g2]
                        have HLR : Hid (l.length = r2.length + 3) := by have h0 := takeV_len g0; have h1 := takeV_len g1; have h2 := takeV_len g2; simp only at h0 h1 h2; unfold Hid; omega
                        have HTS2 := hide (HTS.out.read HO3.out HR3.out)
                        have HN2 : Hid (Wc2.heap[nb]? = some (.cells #[.int .i64 (n2 : Int)] 3 (0, 0))) := (HO3.out.block nb (lt_of_heap HN.out) (by simp; exact HNE.out.2.2.1)).trans HN.out
                        have ct : Wc2.cell? ⟨tb, 2, none⟩ = some vi := by rw [cell_row HTS2.out.box]; rfl
                        have c0 : Wc2.cell? ⟨cb, 0, none⟩ = some (.string (strOf V0.t)) := by rw [cell_row HD3.out]; rfl
                        have c1 : Wc2.cell? ⟨cb, 1, none⟩ = some (.int .i64 V1.n) := by rw [cell_row HD3.out]; rfl
                        have c2 : Wc2.cell? ⟨cb, 2, none⟩ = some (.bool V2.b) := by rw [cell_row HD3.out]; rfl
                        clear g0 g1 g2 HTS HO3 HE1 HN HR3 HD3 HCB2
                        obtain ⟨cv0, cv1, rfl⟩ := owns_len HTS2.out.oi
                        generalize V0.t = x0 at *
                        generalize V1.n = x1 at *
                        generalize V2.b = x2 at *
                        go_wp2_with (refine wpList_append_any 26 85 3 32 _ Tryd.under26t Tryd.info85 rfl (by omega) (by omega) rfl (.tmp 75) (.tmp 77) rfl w.heap.size _ _ is.length (ixsCells is) (ixCells ⟨x0, x1, x2⟩) rfl rfl (HTS2.out.alloc _).oi (row_new Wc2 85 (ixCells ⟨x0, x1, x2⟩)) rfl (by intro u hu; simp [clCells, ixCells, icell] at hu; rcases hu with rfl | rfl | rfl <;> rfl) (by have := HKL.out; have := HCK.out; omega) (HTS2.out.alloc (.cells #[.string (strOf x0), .int .i64 x1, .bool x2] 85)).below.size ?_; intro u7 W7 ho7 hg7; have HO7 := hide ho7; have HG7 := hide hg7; clear ho7 hg7; obtain ⟨cv3, cv4, rfl⟩ := owns_len HO7.out; have HB7 := hide (grown_rec (HTS2.out.alloc (.cells #[.string (strOf x0), .int .i64 x1, .bool x2] 85)).oi HG7.out (HTS2.out.alloc _).box (by decide)); have hcd : W7.cell? ⟨tb, 2, none⟩ = some (.slice cv0 is.length cv1) := (by rw [cell_row HB7.out]; rfl); have hfz := frozen_row (o := 2) HB7.out; clear ct c0 c1 c2)
                        go_roundw
                        case rel =>
                          have hts := (HTS2.out.alloc (.cells #[.string (strOf x0), .int .i64 x1, .bool x2] 85)).growI ⟨x0, x1, x2⟩ HO7.out HG7.out
                          have hn7 : (W7.setCell ⟨tb, 2, none⟩ (.slice cv3 (is.length + 1) cv4)).heap[nb]? = some (.cells #[.int .i64 (n2 : Int)] 3 (0, 0)) := (Below.heap_setCell _ _ _ _ (fun e => HQ.out.2.2.2.2.2 e.symm)).trans (grown_rec (HTS2.out.alloc _).oi HG7.out ((Below.heap_alloc _ _ _ (lt_of_heap HN2.out)).trans HN2.out) (by decide))
                          exact ⟨k + 1, _, _, r2, by omega, by go_num, by simp [HCK.out], by have := HLR.out; have := HKL.out; omega, by rw [HM.out]; exact HE2.out, hts, hn7⟩
                        case measure => simp [intOf]; omega
                · have hkn : k = n2 := by omega
                  subst hkn
                  have HE1 : Hid (tabOf bs = pH nm cs is l) := by unfold Hid; rw [HE.out, Nat.sub_self]; rfl
                  clear HE
                  have HIL : Hid (is.length ≤ 1048576) := by have := HKL.out; have := HCK.out; unfold Hid; omega
                  have HLX : Hid (l.length ≤ 1048576) := by have := HKL.out; unfold Hid; omega
                  clear HKL HCK
                  go_wp2_with fail
                  refine (num48 (o := 3) HTS.out.rd HTS.out.box (by simp) (by decide) (by decide)).mono ?_
                  rintro e Wh hE
                  unfold ReadEnd at hE
                  cases h1 : takeV 1 l with
                  | none =>
                    simp only [h1] at hE
                    obtain ⟨hO, rfl⟩ := hE
                    have HTN : Hid (tabOf bs = none) := by unfold Hid; rw [HE1.out]; simp [pH, h1]
                    have HX := hide (HTS.out.lost hO (by simp; exact ⟨HNE.out.2.2.2, HQ.out.2.1⟩) (by simp; exact ⟨HNE.out.1, HQ.out.2.2.2.1⟩))
                    clear hO h1
                    go_wp2
                    go_step3
                    refine ⟨_, rfl, ?_⟩
                    go_wp2_with (refine wpList_store_tab rfl (.tmp 2) (.tmp 105) rfl rfl rb _ (.string { data := #[] }) (.slice none 0 0) (.slice none 0 0) (.int .i64 0) (.slice none 0 0) rfl rfl HX.out.2.2 rfl (by decide) ?_)
                    rw [Exit.jumps_ret]
                    refine bodyPost_ret (results_ct Tryd.results26 _ _ rb 29 _ (0, 0) _ rfl (setRow_heap _ _ _ _ _ _ HX.out.2.2) Tryd.under29t rfl Tryd.size29) rfl ?_
                    exact ⟨Below.setRow' HX.out.1 _ _ HX.out.2.1, .inl ⟨HTN.out, rfl⟩⟩
                  | some a =>
                    simp only [h1] at hE
                    obtain ⟨hO, rfl, hR, hD⟩ := hE
                    obtain ⟨V, r⟩ := a
                    have HNh : Hid (Wh.heap[nb]? = some (.cells #[.int .i64 (k : Int)] 3 (0, 0))) := (hO.block nb (lt_of_heap HN.out) (by simp; exact ⟨HNE.out.2.2.1, fun e => HQ.out.2.2.2.2.2 e.symm⟩)).trans HN.out
                    have HTSh : Hid (TsAt w Wh rb tb fb nm vc cs vi is V.n (.slice none 0 0) [] r) := HTS.out.readT hO hR hD
                    have HLXh : Hid (r.length ≤ 1048576) := by have := takeV_len h1; have := HLX.out; simp only at *; unfold Hid; omega
                    have HE1h : Hid (tabOf bs = (countV r).bind fun b => pR nm cs is V.n b.1 b.2 []) := by unfold Hid; rw [HE1.out]; simp [pH, h1]
                    clear hO hR hD h1 HTS HN HLX HE1
                    generalize V.n = hd at *
                    have HTS := HTSh
                    have HN := HNh
                    have HLX := HLXh
                    have HE1 := HE1h
                    clear HTSh HNh HLXh HE1h
                    go_wp2_with fail
                    refine (count47 HTS.out.rd HN.out).mono ?_
                    rintro e Wd hE
                    unfold CountEnd at hE
                    cases h2 : countV r with
                    | none =>
                      simp only [h2] at hE
                      obtain ⟨hO, rfl⟩ := hE
                      have HTN : Hid (tabOf bs = none) := by unfold Hid; rw [HE1.out]; simp [pJ, pH, h2]
                      have HX := hide (HTS.out.lost hO (by simp; exact ⟨HNE.out.2.2.2, HQ.out.2.2.1⟩) (by simp; exact ⟨HNE.out.1, HQ.out.2.2.2.2.1⟩))
                      clear hO h2
                      go_wp2
                      go_step3
                      refine ⟨_, rfl, ?_⟩
                      go_wp2_with (refine wpList_store_tab rfl (.tmp 2) (.tmp 105) rfl rfl rb _ (.string { data := #[] }) (.slice none 0 0) (.slice none 0 0) (.int .i64 0) (.slice none 0 0) rfl rfl HX.out.2.2 rfl (by decide) ?_)
                      rw [Exit.jumps_ret]
                      refine bodyPost_ret (results_ct Tryd.results26 _ _ rb 29 _ (0, 0) _ rfl (setRow_heap _ _ _ _ _ _ HX.out.2.2) Tryd.under29t rfl Tryd.size29) rfl ?_
                      exact ⟨Below.setRow' HX.out.1 _ _ HX.out.2.1, .inl ⟨HTN.out, rfl⟩⟩
                    | some b =>
                      simp only [h2] at hE
                      obtain ⟨hO, rfl, hR, hD⟩ := hE
                      obtain ⟨n3, s3⟩ := b
                      have HTS4 := hide (HTS.out.readN HN.out HQ.out.2.2.1 hO hR)
                      have HN4 := hide hD
                      have HLS : Hid (s3.length ≤ 1048576) := by have := countV_len h2; have := HLX.out; simp only at *; unfold Hid; omega
                      have HE4 : Hid (tabOf bs = pR nm cs is hd n3 s3 []) := by unfold Hid; rw [HE1.out]; simp [pJ, pH, h2]
                      have cn : Wd.cell? ⟨nb, 0, none⟩ = some (.int .i64 (n3 : Int)) := by rw [cell_row hD]; rfl
                      clear hO hR hD h2 HTS HN HE1 HLX
                      go_wp2
                      clear cn
                      go_loopw [89] (fun i wr => ∃ (k : Nat) (vr : Value) (rs : List Int) (l : List Vl), k ≤ n3 ∧ i = .int .i64 (k : Int) ∧ rs.length = k ∧ k + l.length ≤ 1048576 ∧ tabOf bs = pR nm cs is hd (n3 - k) l rs ∧ TsAt w wr rb tb fb nm vc cs vi is hd vr rs l) (fun i _ => n3 - (intOf i).toNat)
                      case atStart => exact ⟨0, _, [], s3, Nat.zero_le _, rfl, rfl, by have := HLS.out; omega, HE4.out, HTS4.out⟩
                      case round =>
                        clear HTS4 HN4 HE4 HLS
                        obtain ⟨k, vr, rs, l, hk, rfl, hck, hkl, hE, hTS⟩ := hrel
                        have HE := hide hE
                        have HTS := hide hTS

                        have HCK := hide hck
                        have HKL := hide hkl
                        clear hE hTS hck hkl
                        by_cases hlt : k < n3
                        · obtain ⟨m, hm⟩ : ∃ m, n3 - k = m + 1 := ⟨n3 - k - 1, by omega⟩
                          have HM : Hid (n3 - (k + 1) = m) := by unfold Hid; omega
                          have HE1 : Hid (tabOf bs = (rootV l).bind fun p => pR nm cs is hd m p.2 (rs ++ [p.1])) := by unfold Hid; rw [HE.out, hm, pR_step]
                          have hkb : k ≤ 1048576 := by have := HKL.out; omega
                          clear hm HE
                          go_upto_region 24 with fail
                          have HRb : Hid (Rd (wr.alloc (.cells #[.int .i64 0] 3)) fb l) := (HTS.out.alloc _).rd
                          have HD0 : Hid ((wr.alloc (.cells #[.int .i64 0] 3)).heap[wr.heap.size]? = some (.cells #[.int .i64 0] 3 (0, 0))) := heap_alloc_new _ _
                          have HO0 : Hid (Off [fb] wr (wr.alloc (.cells #[.int .i64 0] 3))) := (Off.refl _ _).alloc _
                          generalize wr.alloc (.cells #[.int .i64 0] 3) = W5 at *
                          generalize hcb : wr.heap.size = cb at *
                          have HCB2 : Hid (wr.heap.size ≤ cb) := by rw [hcb]; exact Nat.le_refl _
                          clear hcb
                          go_wp2_with fail
                          refine (num48 (o := 0) HRb.out HD0.out (by simp) (by decide) (by decide)).mono ?_
                          rintro e Wc0 hE
                          unfold ReadEnd at hE
                          cases g0 : takeV 1 l with
                          | none =>
                            simp only [g0] at hE
                            obtain ⟨hO, rfl⟩ := hE
                            have HTN : Hid (tabOf bs = none) := by unfold Hid; rw [HE1.out]; simp [rootV, g0]
                            have HX := hide (HTS.out.lost (HO0.out.fresh hO HCB2.out) (by simp; exact HNE.out.2.2.2) (by simp; exact HNE.out.1))
                            clear hO g0
                            go_wp2
                            go_step3
                            refine ⟨_, rfl, ?_⟩
                            go_wp2_with (refine wpList_store_tab rfl (.tmp 2) (.tmp 105) rfl rfl rb _ (.string { data := #[] }) (.slice none 0 0) (.slice none 0 0) (.int .i64 0) (.slice none 0 0) rfl rfl HX.out.2.2 rfl (by decide) ?_)
                            rw [Exit.jumps_ret]
                            refine bodyPost_ret (results_ct Tryd.results26 _ _ rb 29 _ (0, 0) _ rfl (setRow_heap _ _ _ _ _ _ HX.out.2.2) Tryd.under29t rfl Tryd.size29) rfl ?_
                            exact ⟨Below.setRow' HX.out.1 _ _ HX.out.2.1, .inl ⟨HTN.out, rfl⟩⟩
                          | some a0 =>
                            simp only [g0] at hE
                            obtain ⟨hO, rfl, hR, hD⟩ := hE
                            obtain ⟨V0, r0⟩ := a0
                            have HO1 : Hid (Off [fb] wr Wc0) := HO0.out.fresh hO HCB2.out
                            have HD1 : Hid (Wc0.heap[cb]? = some (.cells #[.int .i64 V0.n] 3 (0, 0))) := hD
                            have HR1 := hide hR
                            clear hO hR hD HO0 HD0 HRb
                            have HE2 : Hid (tabOf bs = pR nm cs is hd m r0 (rs ++ [V0.n])) := by unfold Hid; rw [HE1.out]; simp [rootV, g0]
                            have HLR : Hid (l.length = r0.length + 1) := by have h0 := takeV_len g0; simp only at h0; unfold Hid; omega
                            have HTS2 := hide (HTS.out.read HO1.out HR1.out)
                            have ct : Wc0.cell? ⟨tb, 4, none⟩ = some vr := by rw [cell_row HTS2.out.box]; rfl
                            have c0 : Wc0.cell? ⟨cb, 0, none⟩ = some (.int .i64 V0.n) := by rw [cell_row HD1.out]; rfl
                            clear g0 HTS HO1 HE1 HR1 HD1 HCB2
                            obtain ⟨cv0, cv1, rfl⟩ := owns_len HTS2.out.orr
                            generalize V0.n = x0 at *
                            go_wp2_with (refine wpList_append_any 27 3 1 8 _ Tryd.under27t Tryd.info3t rfl (by omega) (by omega) rfl (.tmp 94) (.tmp 96) rfl w.heap.size _ _ rs.length (intCells rs) ([icell x0]) rfl rfl (HTS2.out.alloc _).orr (row_new Wc0 3 ([icell x0])) rfl (by intro u hu; simp at hu; subst hu; rfl) (by have := HKL.out; have := HCK.out; omega) (HTS2.out.alloc (.cells #[.int .i64 x0] 3)).below.size ?_; intro u7 W7 ho7 hg7; have HO7 := hide ho7; have HG7 := hide hg7; clear ho7 hg7; obtain ⟨cv3, cv4, rfl⟩ := owns_len HO7.out; have HB7 := hide (grown_rec (HTS2.out.alloc (.cells #[.int .i64 x0] 3)).orr HG7.out (HTS2.out.alloc _).box (by decide)); have hcd : W7.cell? ⟨tb, 4, none⟩ = some (.slice cv0 rs.length cv1) := (by rw [cell_row HB7.out]; rfl); have hfz := frozen_row (o := 4) HB7.out; clear ct c0)
                            go_roundw
                            case rel =>
                              have hts := (HTS2.out.alloc (.cells #[.int .i64 x0] 3)).growR x0 HO7.out HG7.out
                              exact ⟨k + 1, _, _, r0, by omega, by go_num, by simp [HCK.out], by have := HLR.out; have := HKL.out; omega, by rw [HM.out]; exact HE2.out, hts⟩
                            case measure => simp [intOf]; omega
                        · have hkn : k = n3 := by omega
                          subst hkn
                          have HE1 : Hid (tabOf bs = endV nm cs is hd rs l) := by unfold Hid; rw [HE.out, Nat.sub_self]; rfl
                          clear HE
                          have HRL : Hid (rs.length ≤ 1048576) := by have := HKL.out; have := HCK.out; unfold Hid; omega
                          clear HKL HCK
                          obtain ⟨ao, c, hf, hrow⟩ := HTS.out.rd
                          have cf : wr.cell? ⟨fb, 0, none⟩ = some (.slice ao l.length c) := by rw [cell_row hf]; rfl
                          clear hf hrow
                          cases l with
                          | cons v r =>
                            have HTN : Hid (tabOf bs = none) := by unfold Hid; rw [HE1.out]; simp [endV]
                            have HX : Hid (Below w.heap.size w wr ∧ w.heap.size ≤ rb ∧ wr.heap[rb]? = some (.cells #[.string { data := #[] }, .slice none 0 0, .slice none 0 0, .int .i64 0, .slice none 0 0] 29 (0, 0))) := ⟨HTS.out.below, HTS.out.lr, HTS.out.res⟩
                            have hN : 0 < (v :: r).length := by simp
                            clear HTS HE1
                            generalize (v :: r).length = N at *
                            go_wp2
                            go_step3
                            refine ⟨_, rfl, ?_⟩
                            go_wp2_with (refine wpList_store_tab rfl (.tmp 2) (.tmp 105) rfl rfl rb _ (.string { data := #[] }) (.slice none 0 0) (.slice none 0 0) (.int .i64 0) (.slice none 0 0) rfl rfl HX.out.2.2 rfl (by decide) ?_)
                            rw [Exit.jumps_ret]
                            refine bodyPost_ret (results_ct Tryd.results26 _ _ rb 29 _ (0, 0) _ rfl (setRow_heap _ _ _ _ _ _ HX.out.2.2) Tryd.under29t rfl Tryd.size29) rfl ?_
                            exact ⟨Below.setRow' HX.out.1 _ _ HX.out.2.1, .inl ⟨HTN.out, rfl⟩⟩
                          | nil =>
                            simp only [List.length_nil] at cf
                            have b0 : wr.cell? ⟨tb, 0, none⟩ = some (.string (strOf nm)) := by rw [cell_row HTS.out.box]; rfl
                            have b1 : wr.cell? ⟨tb, 1, none⟩ = some vc := by rw [cell_row HTS.out.box]; rfl
                            have b2 : wr.cell? ⟨tb, 2, none⟩ = some vi := by rw [cell_row HTS.out.box]; rfl
                            have b3 : wr.cell? ⟨tb, 3, none⟩ = some (.int .i64 hd) := by rw [cell_row HTS.out.box]; rfl
                            have b4 : wr.cell? ⟨tb, 4, none⟩ = some vr := by rw [cell_row HTS.out.box]; rfl
                            obtain ⟨ca, cc, rfl⟩ := owns_len HTS.out.oc
                            obtain ⟨ia, ic, rfl⟩ := owns_len HTS.out.oi
                            obtain ⟨ra, rc, rfl⟩ := owns_len HTS.out.orr
                            go_wp2_with (refine wpList_store_tab rfl (.tmp 2) (.tmp 104) rfl rfl rb _ (.string (strOf nm)) (.slice ca cs.length cc) (.slice ia is.length ic) (.int .i64 hd) (.slice ra rs.length rc) rfl rfl HTS.out.res rfl (by intro u hu; simp at hu; rcases hu with rfl | rfl | rfl | rfl | rfl <;> rfl) ?_)
                            rw [Exit.jumps_ret]
                            refine bodyPost_ret (results_ct Tryd.results26 _ _ rb 29 _ (0, 0) _ rfl (setRow_heap _ _ _ _ _ _ HTS.out.res) Tryd.under29t rfl Tryd.size29) rfl ?_
                            have hof := off_setRow (Off.refl [rb] wr) rb #[.string (strOf nm), .slice ca cs.length cc, .slice ia is.length ic, .int .i64 hd, .slice ra rs.length rc] (.inl (by simp))
                            exact ⟨Below.setRow' HTS.out.below _ _ HTS.out.lr, .inr ⟨⟨nm, cs, is, hd, rs⟩, ⟨ca, cc, ia, ic, ra, rc⟩, HE1.out.trans (by simp [endV]), ⟨by have := HCL.out; simp only; omega, by have := HIL.out; simp only; omega, by have := HRL.out; simp only; omega⟩, rfl,
                              ⟨Row.of_owns (owns_off HTS.out.oc hof (fun k hk => by simp at hk; subst hk; exact owns_ne HTS.out.oc HTS.out.res (by decide))), Row.of_owns (owns_off HTS.out.oi hof (fun k hk => by simp at hk; subst hk; exact owns_ne HTS.out.oi HTS.out.res (by decide))), Row.of_owns (owns_off HTS.out.orr hof (fun k hk => by simp at hk; subst hk; exact owns_ne HTS.out.orr HTS.out.res (by decide)))⟩⟩⟩
end Go.Proofs.YtplpchaceiogaaaDoor
