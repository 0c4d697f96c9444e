/- change, Evict, Put, Get. -/
import Derived.Test.YtifoafiidplpiaaPFree
namespace Go.Proofs.Ytifoafiidplpiaa
open Go.RowKit
set_option linter.unusedVariables false
set_option linter.unusedSimpArgs false

theorem Try.size82 {s : List Value} (h : s.length = 7) : (Try.prog.info? 82).map (·.size) = some s.length := by rw [h]; kernel_rfl
theorem wpList_store_in {P : Program} {ops : Array Oper} {rest : List Oper} {op : Oper} {a : Act} {w : World} {Q : Exit → Act → World → Prop} (hgd : op.guard = none) (ty : TypeId) (x y : Operand) (ho : op.op = .store ty x y) (hd : op.dst = none)
    (b o : Nat) (cs : List Value) (w' : World) (hx : a.eval x = .pointer (some ⟨b, o, none⟩)) (hy : a.eval y = .agg cs.toArray) (hr : (Instr.storeAt ty (.pointer (some ⟨b, o, none⟩)) (.agg cs.toArray)).run P w = .ok () w')
    (h : wpList P ops Q rest a w') : wpList P ops Q (op :: rest) a w :=
  wpList_plain hgd fun K hK => by
    unfold Oper.wp execOp
    simp only [ho, hx, hy, Sem.run_bind, hr, Result.andThen_ok, Sem.run_pure, Oper.upon_skip]
    exact hK _ _ (by rw [hd]; exact h)
section
variable {Φ : Force} {w0 w w' : World} {P G q p n : Nat} {xs bl ff : List Nat} {vs : List Value} {S : Pl Φ.σ} {D D' : Dv}
theorem PoolIs.setK (h : PoolIs Φ w0 w P G q p n xs bl ff vs S D) (i : Nat) (f : Fm) (v : Value) (hf : S.fs[i]? = some f) (hv : vs[i]? = some v) (k : Nat) (c : Value) (f' : Fm) (v' : Value) (hk : k < 7) (hc : fCells f' v' = (fCells f v).set k c)
    (hB : BytesOk w bl f' v') (hl : -9223372036854775808 ≤ f'.lsn ∧ f'.lsn ≤ 9223372036854775807) : PoolIs Φ w0 (w.setCell ⟨G, i * 7 + k, none⟩ c) P G q p n xs bl ff (vs.set i v') { S with fs := S.fs.set i f' } D := by
  obtain ⟨hlt, rfl⟩ := List.getElem?_eq_some_iff.1 hf
  obtain ⟨hvl, rfl⟩ := List.getElem?_eq_some_iff.1 hv
  exact h.setG i f' v' hlt ((Off.refl _ _).setCell _ _ (by simp)) (by rw [heap_setCell_same _ G _ _ _ _ h.row, List.setIfInBounds_toArray, rowF_set1 S.fs vs h.vlen i hlt k hk c f' v' hc]) hB hl
theorem PoolIs.keptG (h : PoolIs Φ w0 w P G q p n xs bl ff vs S D) (hO : Off [G] w w') : Kept xs w w' :=
  ⟨hO.size, fun k hk => hO.block k (h.fs.lts (by simp [hk])) (fun hm => by simp at hm; exact h.gb (by rw [← hm]; simp [hk]))⟩
/-- A whole frame is written. -/
theorem PoolIs.storeAll (h : PoolIs Φ w0 w P G q p n xs bl ff vs S D) (i : Nat) (hi : i < S.fs.length) (f' : Fm) (v' : Value) (hB : BytesOk w bl f' v') (hl : -9223372036854775808 ≤ f'.lsn ∧ f'.lsn ≤ 9223372036854775807) :
    ∃ w', (Instr.storeAt 82 (.pointer (some ⟨G, i * 7, none⟩)) (.agg (fCells f' v').toArray)).run Try.prog w = .ok () w' ∧ PoolIs Φ w0 w' P G q p n xs bl ff (vs.set i v') { S with fs := S.fs.set i f' } D ∧ Kept xs w w' := by
  have hlen := rowF_length S.fs vs h.vlen
  have h1 : ∀ v ∈ fCells f' v', v.oneCell' = true := by
    intro v hv
    simp only [fCells, List.mem_cons, List.not_mem_nil, or_false] at hv
    rcases hv with rfl | rfl | rfl | rfl | rfl | rfl | rfl
    · rfl
    · rfl
    · exact hB.one
    all_goals rfl
  have hO : Off [G] w (w.setRow G ((rowF S.fs vs).toArray.toList.take (i * 7) ++ fCells f' v' ++ (rowF S.fs vs).toArray.toList.drop (i * 7 + (fCells f' v').length)).toArray) := (Off.refl _ w).setRow _ _ (.inl (by simp))
  refine ⟨_, run_storeAt_in w G (i * 7) 82 82 _ (fCells f' v') h.row (by show i * 7 + 7 ≤ _; rw [List.size_toArray, hlen]; omega) (Try.size82 rfl) h1, ?_, h.keptG hO⟩
  refine h.setG i f' v' hi hO ?_ hB hl
  rw [setRow_heap _ _ _ _ _ _ h.row]
  rw [rowF_setAll S.fs vs h.vlen i hi]

def Fm.changed (f : Fm) (bs : List UInt8) (lsn : Int) : Fm := { f with bs := bs, asked := true, dirty := true, rlsn := if f.dirty = true then f.rlsn else lsn, lsn := lsn }
theorem change_state {w1 w2 : World} (h : PoolIs Φ w0 w1 P G q p n xs bl ff vs S D) (i : Nat) (f : Fm) (hf : S.fs[i]? = some f) (hb : Below w1.heap.size w1 w2) (g c : Nat) (bs : List UInt8) (cur : Array Value) (hk : BlkAt w2 g c bs cur) (hg : w1.heap.size ≤ g) (hl : bs.length = 512)
    (lsn : Int) (h1 : -9223372036854775808 ≤ lsn) (h2 : lsn ≤ 9223372036854775807) :
    PoolAt Φ w0 ((((w2.setCell ⟨G, i * 7 + 2, none⟩ (.slice (some ⟨g, 0, none⟩) 512 c)).setCell ⟨G, i * 7 + 6, none⟩ (.int .i64 lsn)).setCell ⟨G, i * 7 + 4, none⟩ (.bool true)).setCell ⟨G, i * 7 + 3, none⟩ (.bool true)) P G q p n xs
      { S with fs := S.fs.set i { f with bs := bs, asked := true, dirty := true, lsn := lsn } } ∧
    Kept xs w1 ((((w2.setCell ⟨G, i * 7 + 2, none⟩ (.slice (some ⟨g, 0, none⟩) 512 c)).setCell ⟨G, i * 7 + 6, none⟩ (.int .i64 lsn)).setCell ⟨G, i * 7 + 4, none⟩ (.bool true)).setCell ⟨G, i * 7 + 3, none⟩ (.bool true)) := by
  have hP := h.moreB g hb hg hk.lt
  obtain ⟨v, hv, hB, hi, _⟩ := hP.cells i f hf
  have hls := h.lsn f (List.mem_of_getElem? hf)
  have hBok : ∀ (W : World) (f' : Fm), f'.bs = bs → (W.heap[g]? = w2.heap[g]?) → w2.heap.size ≤ W.heap.size → BytesOk W (g :: bl) f' (.slice (some ⟨g, 0, none⟩) 512 c) := fun W f' e1 e2 e3 =>
    .inr ⟨g, c, rfl, by have := hk.cap; omega, by rw [e1]; exact hl, by simp, by rw [e1]; exact hk.src.of e3 e2⟩
  have hgG : g ≠ G := fun e => hP.gb (by rw [← e]; simp)
  have hi' : i < vs.length := by rw [h.vlen]; exact hi
  have a1 := hP.setK i f v hf hv 2 (.slice (some ⟨g, 0, none⟩) 512 c) { f with bs := bs } (.slice (some ⟨g, 0, none⟩) 512 c) (by omega) rfl (hBok _ _ rfl rfl (Nat.le_refl _)) hls
  have o1 : Off [G] w2 (w2.setCell ⟨G, i * 7 + 2, none⟩ (.slice (some ⟨g, 0, none⟩) 512 c)) := (Off.refl _ _).setCell _ _ (by simp)
  have a2 := a1.setK i { f with bs := bs } (.slice (some ⟨g, 0, none⟩) 512 c) (List.getElem?_set_self hi) (List.getElem?_set_self hi') 6 (.int .i64 lsn) { f with bs := bs, lsn := lsn } (.slice (some ⟨g, 0, none⟩) 512 c) (by omega) rfl (hBok _ _ rfl (o1.block g hk.lt (by simpa using hgG)) o1.size) ⟨h1, h2⟩
  have o2 := o1.setCell ⟨G, i * 7 + 6, none⟩ (.int .i64 lsn) (by simp)
  have a3 := a2.setK i { f with bs := bs, lsn := lsn } (.slice (some ⟨g, 0, none⟩) 512 c) (List.getElem?_set_self (by simpa using hi)) (List.getElem?_set_self (by simpa using hi')) 4 (.bool true) { f with bs := bs, lsn := lsn, dirty := true } (.slice (some ⟨g, 0, none⟩) 512 c) (by omega) rfl (hBok _ _ rfl (o2.block g hk.lt (by simpa using hgG)) o2.size) ⟨h1, h2⟩
  have o3 := o2.setCell ⟨G, i * 7 + 4, none⟩ (.bool true) (by simp)
  have a4 := a3.setK i { f with bs := bs, lsn := lsn, dirty := true } (.slice (some ⟨g, 0, none⟩) 512 c) (List.getElem?_set_self (by simpa using hi)) (List.getElem?_set_self (by simpa using hi')) 3 (.bool true) { f with bs := bs, asked := true, dirty := true, lsn := lsn } (.slice (some ⟨g, 0, none⟩) 512 c) (by omega) rfl (hBok _ _ rfl (o3.block g hk.lt (by simpa using hgG)) o3.size) ⟨h1, h2⟩
  have o4 := o3.setCell ⟨G, i * 7 + 3, none⟩ (.bool true) (by simp)
  simp only [List.set_set] at a4
  refine ⟨a4.at, Kept.trans ⟨hb.size, fun k hk' => hb.block k (h.fs.lts (by simp [hk']))⟩ (hP.keptG o4)⟩

set_option maxHeartbeats 1000000 in
set_option maxRecDepth 100000 in
theorem change_any (h : PoolIs Φ w0 w P G q p n xs bl ff vs S D) (i : Nat) (f : Fm) (hf : S.fs[i]? = some f) (g c : Nat) (bs : List UInt8) (hs : SrcAt w g 0 bs) (hl : bs.length = 512) (hg : g ≠ G) (lsn : Int) (h1 : -9223372036854775808 ≤ lsn) (h2 : lsn ≤ 9223372036854775807) :
    Calls Try.prog 36 #[.pointer (some ⟨G, i * 7, none⟩), .slice (some ⟨g, 0, none⟩) 512 c, .int .i64 lsn] w fun e w' => e = .returned (.tuple #[]) ∧ PoolAt Φ w0 w' P G q p n xs { S with fs := S.fs.set i (f.changed bs lsn) } ∧ Kept xs w w' := by
  obtain ⟨v, hv, hB, hi, d0, d1, d2, d3, d4, d5, d6⟩ := h.cells i f hf
  have hls := h.lsn f (List.mem_of_getElem? hf)
  have g5 := h.fzG (i * 7 + 5)
  by_cases hd : f.dirty = true
  · have HCL := hide (clone_any (c := c) hs hl)
    rw [hd] at d4
    have HFC : Hid (f.changed bs lsn = { f with bs := bs, asked := true, dirty := true, lsn := lsn }) := by show _ = _; unfold Fm.changed; rw [if_pos hd]
    have H := hide h
    have HF := hide hf
    clear h hB hd hf hv hls hs d0 d1 d2 d3 d5 d6 g5
    go_enter Try.func36, Try.ntmps36
    go_wp2_with fail
    refine HCL.out.mono ?_
    rintro e w2 ⟨g', c', cur, rfl, hg', hk, hb⟩
    have H2 := hide (change_state H.out i f HF.out hb g' c' bs cur hk hg' hl lsn h1 h2)
    have h3 := H.out.belowW hb
    obtain ⟨v, hv, hB, hi, d0, d1, d2, d3, d4, d5, d6⟩ := h3.cells i f HF.out
    have e2 := h3.fzG (i * 7 + 2)
    have e6 := h3.fzG (i * 7 + 6)
    have e4 := h3.fzG (i * 7 + 4)
    have e3 := h3.fzG (i * 7 + 3)
    clear h3 hk hb hB hv HCL
    go_wp2_with fail
    go_end0
    rw [HFC.out]
    exact ⟨rfl, H2.out⟩
  · have hd' : f.dirty = false := by simpa using hd
    rw [hd'] at d4
    have HFC : Hid (f.changed bs lsn = { f with bs := bs, asked := true, dirty := true, rlsn := lsn, lsn := lsn }) := by show _ = _; unfold Fm.changed; rw [if_neg hd]
    have hO : Off [G] w (w.setCell ⟨G, i * 7 + 5, none⟩ (.int .i64 lsn)) := (Off.refl _ _).setCell _ _ (by simp)
    have ha := h.setK i f v hf hv 5 (.int .i64 lsn) { f with rlsn := lsn } v (by omega) rfl (hB.stay rfl (Nat.le_refl _) (fun k hk => ⟨hk, rfl⟩)) hls
    have HK1 := hide (h.keptG hO)
    have HF : Hid ((S.fs.set i { f with rlsn := lsn })[i]? = some { f with rlsn := lsn }) := List.getElem?_set_self hi
    have hs1 : SrcAt (w.setCell ⟨G, i * 7 + 5, none⟩ (.int .i64 lsn)) g 0 bs := hs.off hO (by simpa using hg)
    have HCL := hide (clone_any (c := c) hs1 hl)
    have H := hide ha
    clear h hB hd hf hv hls hs d0 d1 d2 d3 d6 ha hs1 hO
    go_enter Try.func36, Try.ntmps36
    go_wp2_with fail
    refine HCL.out.mono ?_
    rintro e w2 ⟨g', c', cur, rfl, hg', hk, hb⟩
    have H2 := hide (change_state H.out i _ HF.out hb g' c' bs cur hk hg' hl lsn h1 h2)
    have h3 := H.out.belowW hb
    obtain ⟨v, hv, hB, hi, d0, d1, d2, d3, d4, d5, d6⟩ := h3.cells i _ HF.out
    have e2 := h3.fzG (i * 7 + 2)
    have e6 := h3.fzG (i * 7 + 6)
    have e4 := h3.fzG (i * 7 + 4)
    have e3 := h3.fzG (i * 7 + 3)
    clear h3 hk hb hB hv HCL g5
    go_wp2_with fail
    go_end0
    rw [HFC.out]
    have h5 := H2.out
    simp only [List.set_set] at h5
    exact ⟨rfl, h5.1, HK1.out.trans h5.2⟩

/-! ### Evict -/
def Pl.evict {Φ : Force} (S : Pl Φ.σ) (m : Int) : Int × Pl Φ.σ := match S.find m with
  | none => (0, S)
  | some i => if (S.wrote (S.fs.getD i Fm.nil)).1 ≠ 0 then S.wrote (S.fs.getD i Fm.nil) else (0, { (S.wrote (S.fs.getD i Fm.nil)).2 with fs := S.fs.set i Fm.nil })
theorem wrote_fs {Φ : Force} (S : Pl Φ.σ) (f : Fm) : (S.wrote f).2.fs = S.fs ∧ (S.wrote f).2.hand = S.hand := by
  unfold Pl.wrote
  split
  · split <;> exact ⟨rfl, rfl⟩
  · exact ⟨rfl, rfl⟩
theorem find_some {σ : Type} {S : Pl σ} {m : Int} {i : Nat} (h : S.find m = some i) : ∃ f, S.fs[i]? = some f ∧ S.fs.getD i Fm.nil = f ∧ f.held = true ∧ f.page = m ∧ f ∈ S.fs ∧ i < S.fs.length := by
  obtain ⟨hlt, hp, _⟩ := List.findIdx?_eq_some_iff_getElem.1 h
  simp [Fm.is] at hp
  exact ⟨S.fs[i], List.getElem?_eq_getElem hlt, by simp [List.getD_eq_getElem?_getD, hlt], hp.1, hp.2, List.getElem_mem hlt, hlt⟩
set_option maxHeartbeats 1000000 in
set_option maxRecDepth 100000 in
theorem evict_any (h : PoolAt Φ w0 w P G q p n xs S) (m : Int) (hok : Φ.ok S.fo) (hpg : S.sound n) (hwr : S.wr ≤ 1000000) :
    Calls Try.prog 10 #[.pointer (some ⟨P, 0, none⟩), .int .i64 m] w fun e w' => e = .returned (.int .i64 (S.evict m).1) ∧ PoolAt Φ w0 w' P G q p n xs (S.evict m).2 ∧ Kept xs w w' := by
  obtain ⟨bl, ff, vs, D, h⟩ := h
  have HFI := hide (find_any h m)
  have H := hide h
  clear h
  cases hf : S.find m with
  | none =>
    have HEV : Hid (S.evict m = (0, S)) := by show _ = _; unfold Pl.evict; rw [hf]
    rw [hf] at HFI
    have HFI : Hid (Calls Try.prog 29 #[.pointer (some ⟨P, 0, none⟩), .int .i64 m] w fun e w' => e = .returned (.pointer none) ∧ w' = w) := HFI
    clear hf hpg
    go_enter Try.func10, Try.ntmps10
    go_wp2_with (go_at_call 29; refine HFI.out.mono ?_; rintro e w' ⟨rfl, hw⟩; have hw := hw.symm; subst hw)
    go_ret
    rw [HEV.out]
    exact ⟨rfl, H.out.at, Kept.refl _ _⟩
  | some i =>
    obtain ⟨f, hfi, hfd, hhe, hpm, hfm, hi⟩ := find_some hf
    have HW := hide (write_any H.out i f hfi hok (hpg f hfm) hwr)
    have hT0 : (S.wrote f).2.fs = S.fs := (wrote_fs S f).1
    have HEV : Hid (S.evict m = if (S.wrote f).1 ≠ 0 then S.wrote f else (0, { (S.wrote f).2 with fs := S.fs.set i Fm.nil })) := by show _ = _; unfold Pl.evict; rw [hf]; simp only [hfd]
    rw [hf] at HFI
    have HFI : Hid (Calls Try.prog 29 #[.pointer (some ⟨P, 0, none⟩), .int .i64 m] w fun e w' => e = .returned (.pointer (some ⟨G, i * 7, none⟩)) ∧ w' = w) := HFI
    obtain ⟨⟨x, T⟩, hT⟩ : ∃ T, S.wrote f = T := ⟨_, rfl⟩
    rw [hT] at HW HEV hT0
    have HT0 := hide hT0
    clear hf hpg hT hfi hfd hhe hpm hfm hT0
    by_cases hx : x = 0
    · subst hx
      rw [if_neg (by simp)] at HEV
      go_enter Try.func10, Try.ntmps10
      go_wp2_with (first
        | (go_at_call 29; refine HFI.out.mono ?_; rintro e w' ⟨rfl, hw⟩; have hw := hw.symm; subst hw)
        | (go_at_call 30; refine HW.out.mono ?_; rintro e w3 ⟨rfl, ⟨ff3, D3, h3⟩, hK3⟩; obtain ⟨w4, r1, r2, r3⟩ := h3.storeAll i (by rw [HT0.out]; exact hi) Fm.nil (.slice none 0 0) (.inl ⟨rfl, rfl⟩) (by simp [Fm.nil]); have HR1 := hide r1; have H3 := hide (And.intro r2 (hK3.trans r3)); clear r1 r2 r3 h3 hK3)
        | (refine wpList_store_in rfl 82 _ _ rfl rfl G (i * 7) (fCells Fm.nil (.slice none 0 0)) w4 rfl rfl HR1.out ?_))
      go_ret
      rw [HEV.out]
      have h5 := H3.out
      simp only [HT0.out] at h5
      exact ⟨rfl, h5.1.at, h5.2⟩
    · have hxb : (x != 0) = true := by simpa using hx
      rw [if_pos hx] at HEV
      go_enter Try.func10, Try.ntmps10
      go_wp2_with (first
        | (go_at_call 29; refine HFI.out.mono ?_; rintro e w' ⟨rfl, hw⟩; have hw := hw.symm; subst hw)
        | (go_at_call 30; refine HW.out.mono ?_; rintro e w3 ⟨rfl, ⟨ff3, D3, h3⟩, hK3⟩; have H3 := hide (And.intro h3 hK3); clear h3 hK3))
      go_ret
      rw [HEV.out]
      exact ⟨rfl, H3.out.1.at, H3.out.2⟩
end
end Go.Proofs.Ytifoafiidplpiaa
