/- A part of it: PPut PGet PGot PDirty. -/
import Derived.Test.YteeembildppgmaaGreatM11
namespace Go.Proofs.YteeembildppgmaaGreat
open Go.RowKit
set_option linter.unusedVariables false
set_option linter.unusedSimpArgs false
theorem Tryz.size132 {s : List Value} (h : s.length = 7) : (Tryz.prog.info? 132).map (·.size) = some s.length := by rw [h]; kernel_rfl
theorem wpList_store_in {P : Program} {ops : Array Oper} {rest : List Oper} {op : Oper} {a : Act} {w : World} {Q : Exit → Act → World → Prop} (hgd : op.guard = none) (ty : TypeId) (x y : Operand) (ho : op.op = .store ty x y) (hd : op.dst = none)
 (b o : Nat) (cs : List Value) (w' : World) (hx : a.eval x = .pointer (some ⟨b, o, none⟩)) (hy : a.eval y = .agg cs.toArray) (hr : (Instr.storeAt ty (.pointer (some ⟨b, o, none⟩)) (.agg cs.toArray)).run P w = .ok () w')
 (h : wpList P ops Q rest a w') : wpList P ops Q (op :: rest) a w :=
 wpList_plain hgd fun K hK => by
  unfold Oper.wp execOp
  simp only [ho, hx, hy, Sem.run_bind, hr, Result.andThen_ok, Sem.run_pure, Oper.upon_skip]
  exact hK _ _ (by rw [hd]; exact h)
section
variable {Φ : Back} {w0 w w' : World} {P G : Nat} {xs bl : List Nat} {vs : List Value} {S : Pl Φ.σ}
theorem PoolIs.setK (h : PoolIs Φ w0 w P G xs bl vs S) (i : Nat) (f : Fm) (v : Value) (hf : S.fs[i]? = some f) (hv : vs[i]? = some v) (k : Nat) (c : Value) (f' : Fm) (v' : Value) (hk : k < 7) (hc : fCells f' v' = (fCells f v).set k c)
 (hB : BytesOk w bl f' v') (hl : -9223372036854775808 ≤ f'.lsn ∧ f'.lsn ≤ 9223372036854775807) : PoolIs Φ w0 (w.setCell ⟨G, i * 7 + k, none⟩ c) P G xs bl (vs.set i v') { S with fs := S.fs.set i f' } := by
 obtain ⟨hlt, rfl⟩ := List.getElem?_eq_some_iff.1 hf
 obtain ⟨hvl, rfl⟩ := List.getElem?_eq_some_iff.1 hv
 exact h.setG i f' v' hlt ((Off.refl _ _).setCell _ _ (by simp)) (by rw [heap_setCell_same _ G _ _ _ _ h.row, List.setIfInBounds_toArray, rowF_set1 S.fs vs h.vlen i hlt k hk c f' v' hc]) hB hl
theorem PoolIs.keptG (h : PoolIs Φ w0 w P G xs bl vs S) (hO : Off [G] w w') : Kept xs w w' :=
 ⟨hO.size, fun k hk => hO.block k (Φ.lts h.bk (by simp [hk])) (fun hm => by simp at hm; exact h.gb (by rw [← hm]; simp [hk]))⟩
theorem PoolIs.storeAll (h : PoolIs Φ w0 w P G xs bl vs S) (i : Nat) (hi : i < S.fs.length) (f' : Fm) (v' : Value) (hB : BytesOk w bl f' v') (hl : -9223372036854775808 ≤ f'.lsn ∧ f'.lsn ≤ 9223372036854775807) :
 ∃ w', (Instr.storeAt 132 (.pointer (some ⟨G, i * 7, none⟩)) (.agg (fCells f' v').toArray)).run Tryz.prog w = .ok () w' ∧ PoolIs Φ w0 w' P G xs bl (vs.set i v') { S with fs := S.fs.set i f' } ∧ Kept xs w w' := by
 have hlen := rowF_length S.fs vs h.vlen
 have h1 : ∀ v ∈ fCells f' v', v.oneCell' = true := by
  intro v hv
  simp only [fCells, List.mem_cons, List.not_mem_nil, or_false] at hv
  rcases hv with rfl | rfl | rfl | rfl | rfl | rfl | rfl
  · rfl
  · rfl
  · exact hB.one
  all_goals rfl
 have hO : Off [G] w (w.setRow G ((rowF S.fs vs).toArray.toList.take (i * 7) ++ fCells f' v' ++ (rowF S.fs vs).toArray.toList.drop (i * 7 + (fCells f' v').length)).toArray) := (Off.refl _ w).setRow _ _ (.inl (by simp))
 refine ⟨_, run_storeAt_in w G (i * 7) 132 132 _ (fCells f' v') h.row (by show i * 7 + 7 ≤ _; rw [List.size_toArray, hlen]; omega) (Tryz.size132 rfl) h1, ?_, h.keptG hO⟩
 refine h.setG i f' v' hi hO ?_ hB hl
 rw [setRow_heap _ _ _ _ _ _ h.row]
 rw [rowF_setAll S.fs vs h.vlen i hi]

def Fm.changed (f : Fm) (bs : List UInt8) (lsn : Int) : Fm := { f with bs := bs, asked := true, dirty := true, rlsn := if f.dirty = true then f.rlsn else lsn, lsn := lsn }
theorem change_state {w1 w2 : World} (h : PoolIs Φ w0 w1 P G xs bl vs S) (i : Nat) (f : Fm) (hf : S.fs[i]? = some f) (hb : Below w1.heap.size w1 w2) (g c : Nat) (bs : List UInt8) (cur : Array Value) (hk : BlkAt w2 g c bs cur) (hg : w1.heap.size ≤ g) (hl : bs.length = 512)
 (lsn : Int) (h1 : -9223372036854775808 ≤ lsn) (h2 : lsn ≤ 9223372036854775807) :
 PoolAt Φ w0 ((((w2.setCell ⟨G, i * 7 + 2, none⟩ (.slice (some ⟨g, 0, none⟩) 512 c)).setCell ⟨G, i * 7 + 6, none⟩ (.int .i64 lsn)).setCell ⟨G, i * 7 + 4, none⟩ (.bool true)).setCell ⟨G, i * 7 + 3, none⟩ (.bool true)) P G xs
  { S with fs := S.fs.set i { f with bs := bs, asked := true, dirty := true, lsn := lsn } } ∧
 Kept xs w1 ((((w2.setCell ⟨G, i * 7 + 2, none⟩ (.slice (some ⟨g, 0, none⟩) 512 c)).setCell ⟨G, i * 7 + 6, none⟩ (.int .i64 lsn)).setCell ⟨G, i * 7 + 4, none⟩ (.bool true)).setCell ⟨G, i * 7 + 3, none⟩ (.bool true)) := by
 have hP := h.moreB g hb hg hk.lt
 obtain ⟨v, hv, hB, hi, _⟩ := hP.cells i f hf
 have hls := h.lsn f (List.mem_of_getElem? hf)
 have hBok : ∀ (W : World) (f' : Fm), f'.bs = bs → (W.heap[g]? = w2.heap[g]?) → w2.heap.size ≤ W.heap.size → BytesOk W (g :: bl) f' (.slice (some ⟨g, 0, none⟩) 512 c) := fun W f' e1 e2 e3 =>
  .inr ⟨g, c, rfl, by have := hk.cap; omega, by rw [e1]; exact hl, by simp, by rw [e1]; exact hk.src.of e3 e2⟩
 have hgG : g ≠ G := fun e => hP.gb (by rw [← e]; simp)
 have hi' : i < vs.length := by rw [h.vlen]; exact hi
 have a1 := hP.setK i f v hf hv 2 (.slice (some ⟨g, 0, none⟩) 512 c) { f with bs := bs } (.slice (some ⟨g, 0, none⟩) 512 c) (by omega) rfl (hBok _ _ rfl rfl (Nat.le_refl _)) hls
 have o1 : Off [G] w2 (w2.setCell ⟨G, i * 7 + 2, none⟩ (.slice (some ⟨g, 0, none⟩) 512 c)) := (Off.refl _ _).setCell _ _ (by simp)
 have a2 := a1.setK i { f with bs := bs } (.slice (some ⟨g, 0, none⟩) 512 c) (List.getElem?_set_self hi) (List.getElem?_set_self hi') 6 (.int .i64 lsn) { f with bs := bs, lsn := lsn } (.slice (some ⟨g, 0, none⟩) 512 c) (by omega) rfl (hBok _ _ rfl (o1.block g hk.lt (by simpa using hgG)) o1.size) ⟨h1, h2⟩
 have o2 := o1.setCell ⟨G, i * 7 + 6, none⟩ (.int .i64 lsn) (by simp)
 have a3 := a2.setK i { f with bs := bs, lsn := lsn } (.slice (some ⟨g, 0, none⟩) 512 c) (List.getElem?_set_self (by simpa using hi)) (List.getElem?_set_self (by simpa using hi')) 4 (.bool true) { f with bs := bs, lsn := lsn, dirty := true } (.slice (some ⟨g, 0, none⟩) 512 c) (by omega) rfl (hBok _ _ rfl (o2.block g hk.lt (by simpa using hgG)) o2.size) ⟨h1, h2⟩
 have o3 := o2.setCell ⟨G, i * 7 + 4, none⟩ (.bool true) (by simp)
 have a4 := a3.setK i { f with bs := bs, lsn := lsn, dirty := true } (.slice (some ⟨g, 0, none⟩) 512 c) (List.getElem?_set_self (by simpa using hi)) (List.getElem?_set_self (by simpa using hi')) 3 (.bool true) { f with bs := bs, asked := true, dirty := true, lsn := lsn } (.slice (some ⟨g, 0, none⟩) 512 c) (by omega) rfl (hBok _ _ rfl (o3.block g hk.lt (by simpa using hgG)) o3.size) ⟨h1, h2⟩
 have o4 := o3.setCell ⟨G, i * 7 + 3, none⟩ (.bool true) (by simp)
 simp only [List.set_set] at a4
 refine ⟨a4.at, Kept.trans ⟨hb.size, fun k hk' => hb.block k (Φ.lts h.bk (by simp [hk']))⟩ (hP.keptG o4)⟩

set_option maxHeartbeats 1000000 in
set_option maxRecDepth 100000 in
theorem change_any (h : PoolIs Φ w0 w P G xs bl vs S) (i : Nat) (f : Fm) (hf : S.fs[i]? = some f) (g c : Nat) (bs : List UInt8) (hs : SrcAt w g 0 bs) (hl : bs.length = 512) (hg : g ≠ G) (lsn : Int) (h1 : -9223372036854775808 ≤ lsn) (h2 : lsn ≤ 9223372036854775807) :
 Calls Tryz.prog 124 #[.pointer (some ⟨G, i * 7, none⟩), .slice (some ⟨g, 0, none⟩) 512 c, .int .i64 lsn] w fun e w' => e = .returned (.tuple #[]) ∧ PoolAt Φ w0 w' P G xs { S with fs := S.fs.set i (f.changed bs lsn) } ∧ Kept xs w w' := by
 obtain ⟨v, hv, hB, hi, d0, d1, d2, d3, d4, d5, d6⟩ := h.cells i f hf
 have hls := h.lsn f (List.mem_of_getElem? hf)
 have g5 := h.fzG (i * 7 + 5)
 by_cases hd : f.dirty = true
 · have HCL := hide (clone_any (c := c) hs hl)
   rw [hd] at d4
   have HFC : Hid (f.changed bs lsn = { f with bs := bs, asked := true, dirty := true, lsn := lsn }) := by show _ = _; unfold Fm.changed; rw [if_pos hd]
   have H := hide h
   have HF := hide hf
   clear h hB hd hf hv hls hs d0 d1 d2 d3 d5 d6 g5
   go_enter Tryz.func124, Tryz.ntmps124
   go_wp2_with fail
   refine HCL.out.mono ?_
   rintro e w2 ⟨g', c', cur, rfl, hg', hk, hb⟩
   have H2 := hide (change_state H.out i f HF.out hb g' c' bs cur hk hg' hl lsn h1 h2)
   have h3 := H.out.belowW hb
   obtain ⟨v, hv, hB, hi, d0, d1, d2, d3, d4, d5, d6⟩ := h3.cells i f HF.out
   have e2 := h3.fzG (i * 7 + 2)
   have e6 := h3.fzG (i * 7 + 6)
   have e4 := h3.fzG (i * 7 + 4)
   have e3 := h3.fzG (i * 7 + 3)
   clear h3 hk hb hB hv HCL
   go_wp2_with fail
   go_end0
   rw [HFC.out]
   exact ⟨rfl, H2.out⟩
 · have hd' : f.dirty = false := by simpa using hd
   rw [hd'] at d4
   have HFC : Hid (f.changed bs lsn = { f with bs := bs, asked := true, dirty := true, rlsn := lsn, lsn := lsn }) := by show _ = _; unfold Fm.changed; rw [if_neg hd]
   have hO : Off [G] w (w.setCell ⟨G, i * 7 + 5, none⟩ (.int .i64 lsn)) := (Off.refl _ _).setCell _ _ (by simp)
   have ha := h.setK i f v hf hv 5 (.int .i64 lsn) { f with rlsn := lsn } v (by omega) rfl (hB.stay rfl (Nat.le_refl _) (fun k hk => ⟨hk, rfl⟩)) hls
   have HK1 := hide (h.keptG hO)
   have HF : Hid ((S.fs.set i { f with rlsn := lsn })[i]? = some { f with rlsn := lsn }) := List.getElem?_set_self hi
   have hs1 : SrcAt (w.setCell ⟨G, i * 7 + 5, none⟩ (.int .i64 lsn)) g 0 bs := hs.off hO (by simpa using hg)
   have HCL := hide (clone_any (c := c) hs1 hl)
   have H := hide ha
   clear h hB hd hf hv hls hs d0 d1 d2 d3 d6 ha hs1 hO
   go_enter Tryz.func124, Tryz.ntmps124
   go_wp2_with fail
   refine HCL.out.mono ?_
   rintro e w2 ⟨g', c', cur, rfl, hg', hk, hb⟩
   have H2 := hide (change_state H.out i _ HF.out hb g' c' bs cur hk hg' hl lsn h1 h2)
   have h3 := H.out.belowW hb
   obtain ⟨v, hv, hB, hi, d0, d1, d2, d3, d4, d5, d6⟩ := h3.cells i _ HF.out
   have e2 := h3.fzG (i * 7 + 2)
   have e6 := h3.fzG (i * 7 + 6)
   have e4 := h3.fzG (i * 7 + 4)
   have e3 := h3.fzG (i * 7 + 3)
   clear h3 hk hb hB hv HCL g5
   go_wp2_with fail
   go_end0
   rw [HFC.out]
   have h5 := H2.out
   simp only [List.set_set] at h5
   exact ⟨rfl, h5.1, HK1.out.trans h5.2⟩

def Pl.evict {Φ : Back} (S : Pl Φ.σ) (m : Int) : Int × Pl Φ.σ := match S.find m with
 | none => (0, S)
 | some i => if (S.wrote (S.fs.getD i Fm.nil)).1 ≠ 0 then S.wrote (S.fs.getD i Fm.nil) else (0, { (S.wrote (S.fs.getD i Fm.nil)).2 with fs := S.fs.set i Fm.nil })
theorem wrote_fs {Φ : Back} (S : Pl Φ.σ) (f : Fm) : (S.wrote f).2.fs = S.fs ∧ (S.wrote f).2.hand = S.hand := by
 unfold Pl.wrote
 split
 · split <;> exact ⟨rfl, rfl⟩
 · exact ⟨rfl, rfl⟩
theorem find_some {σ : Type} {S : Pl σ} {m : Int} {i : Nat} (h : S.find m = some i) : ∃ f, S.fs[i]? = some f ∧ S.fs.getD i Fm.nil = f ∧ f.held = true ∧ f.page = m ∧ f ∈ S.fs ∧ i < S.fs.length := by
 obtain ⟨hlt, hp, _⟩ := List.findIdx?_eq_some_iff_getElem.1 h
 simp [Fm.is] at hp
 exact ⟨S.fs[i], List.getElem?_eq_getElem hlt, by simp [List.getD_eq_getElem?_getD, hlt], hp.1, hp.2, List.getElem_mem hlt, hlt⟩
set_option maxHeartbeats 1000000 in
set_option maxRecDepth 100000 in
theorem evict_any (h : PoolAt Φ w0 w P G xs S) (m : Int) (hpg : S.sound Φ.n) (hwr : S.wr ≤ 1000000) :
 Calls Tryz.prog 52 #[.pointer (some ⟨P, 0, none⟩), .int .i64 m] w fun e w' => e = .returned (.int .i64 (S.evict m).1) ∧ PoolAt Φ w0 w' P G xs (S.evict m).2 ∧ Kept xs w w' := by
 obtain ⟨bl, vs, h⟩ := h
 have HFI := hide (find_any h m)
 have H := hide h
 clear h
 cases hf : S.find m with
 | none =>
   have HEV : Hid (S.evict m = (0, S)) := by show _ = _; unfold Pl.evict; rw [hf]
   rw [hf] at HFI
   have HFI : Hid (Calls Tryz.prog 82 #[.pointer (some ⟨P, 0, none⟩), .int .i64 m] w fun e w' => e = .returned (.pointer none) ∧ w' = w) := HFI
   clear hf hpg
   go_enter Tryz.func52, Tryz.ntmps52
   go_wp2_with (go_at_call 82; refine HFI.out.mono ?_; rintro e w' ⟨rfl, hw⟩; have hw := hw.symm; subst hw)
   go_ret
   rw [HEV.out]
   exact ⟨rfl, H.out.at, Kept.refl _ _⟩
 | some i =>
   obtain ⟨f, hfi, hfd, hhe, hpm, hfm, hi⟩ := find_some hf
   have HW := hide (write_any H.out i f hfi (hpg f hfm) hwr)
   have hT0 : (S.wrote f).2.fs = S.fs := (wrote_fs S f).1
   have HEV : Hid (S.evict m = if (S.wrote f).1 ≠ 0 then S.wrote f else (0, { (S.wrote f).2 with fs := S.fs.set i Fm.nil })) := by show _ = _; unfold Pl.evict; rw [hf]; simp only [hfd]
   rw [hf] at HFI
   have HFI : Hid (Calls Tryz.prog 82 #[.pointer (some ⟨P, 0, none⟩), .int .i64 m] w fun e w' => e = .returned (.pointer (some ⟨G, i * 7, none⟩)) ∧ w' = w) := HFI
   obtain ⟨⟨x, T⟩, hT⟩ : ∃ T, S.wrote f = T := ⟨_, rfl⟩
   rw [hT] at HW HEV hT0
   have HT0 := hide hT0
   clear hf hpg hT hfi hfd hhe hpm hfm hT0
   by_cases hx : x = 0
   · subst hx
     rw [if_neg (by simp)] at HEV
     go_enter Tryz.func52, Tryz.ntmps52
     go_wp2_with (first
      | (go_at_call 82; refine HFI.out.mono ?_; rintro e w' ⟨rfl, hw⟩; have hw := hw.symm; subst hw)
      | (go_at_call 83; refine HW.out.mono ?_; rintro e w3 ⟨rfl, h3, hK3⟩; obtain ⟨w4, r1, r2, r3⟩ := h3.storeAll i (by rw [HT0.out]; exact hi) Fm.nil (.slice none 0 0) (.inl ⟨rfl, rfl⟩) (by simp [Fm.nil]); have HR1 := hide r1; have H3 := hide (And.intro r2 (hK3.trans r3)); clear r1 r2 r3 h3 hK3)
      | (refine wpList_store_in rfl 132 _ _ rfl rfl G (i * 7) (fCells Fm.nil (.slice none 0 0)) w4 rfl rfl HR1.out ?_))
     go_ret
     rw [HEV.out]
     have h5 := H3.out
     simp only [HT0.out] at h5
     exact ⟨rfl, h5.1.at, h5.2⟩
   · have hxb : (x != 0) = true := by simpa using hx
     rw [if_pos hx] at HEV
     go_enter Tryz.func52, Tryz.ntmps52
     go_wp2_with (first
      | (go_at_call 82; refine HFI.out.mono ?_; rintro e w' ⟨rfl, hw⟩; have hw := hw.symm; subst hw)
      | (go_at_call 83; refine HW.out.mono ?_; rintro e w3 ⟨rfl, h3, hK3⟩; have H3 := hide (And.intro h3 hK3); clear h3 hK3))
     go_ret
     rw [HEV.out]
     exact ⟨rfl, H3.out.1.at, H3.out.2⟩
end
end Go.Proofs.YteeembildppgmaaGreat
namespace Go.Proofs.YteeembildppgmaaGreat
open Go.RowKit
set_option linter.unusedVariables false
set_option linter.unusedSimpArgs false
def Fm.fresh (m : Int) : Fm := ⟨true, m, [], false, false, 0, 0⟩
def Fm.read (m : Int) (bs : List UInt8) : Fm := ⟨true, m, bs, true, false, 0, 0⟩
def Pl.put {Φ : Back} (S : Pl Φ.σ) (n : Nat) (m : Int) (bs : List UInt8) (lsn : Int) : Int × Pl Φ.σ :=
 if m < 0 ∨ (n : Int) ≤ m ∨ lsn < 1 then (1, S) else match S.find m with
  | some i => (0, { S with fs := S.fs.set i ((S.fs.getD i Fm.nil).changed bs lsn) })
  | none => if S.free.1 ≠ 0 then (S.free.1, S.free.2.2) else (0, { S.free.2.2 with fs := S.free.2.2.fs.set S.free.2.1 ((Fm.fresh m).changed bs lsn) })
def Pl.get {Φ : Back} (S : Pl Φ.σ) (n : Nat) (m : Int) : List UInt8 × Int × Pl Φ.σ := match S.find m with
 | some i => ((S.fs.getD i Fm.nil).bs, 0, { S with fs := S.fs.set i { S.fs.getD i Fm.nil with asked := true } })
 | none => if m < 0 ∨ (n : Int) ≤ m then ([], 1, S) else if S.free.1 ≠ 0 then ([], S.free.1, S.free.2.2) else
   (Φ.disk S.fo m.toNat, 0, { S.free.2.2 with fs := S.free.2.2.fs.set S.free.2.1 (Fm.read m (Φ.disk S.fo m.toNat)) })
def Pl.full {σ : Type} (S : Pl σ) : Prop := ∀ f ∈ S.fs, f.held = true → f.bs.length = 512
theorem clock_len {σ : Type} : ∀ (k : Nat) (S : Pl σ), S.hand < S.fs.length → (S.clock k).1 < S.fs.length ∧ (S.clock k).2.fs.length = S.fs.length
 | 0, S, h => ⟨h, rfl⟩
 | k + 1, S, h => by
   rw [Pl.clock, List.getElem?_eq_getElem h]
   simp only
   split
   · have := clock_len k { S with fs := S.fs.set S.hand S.fs[S.hand].unasked, hand := S.next } (by simp only [List.length_set]; exact Nat.mod_lt _ (by omega))
     simpa using this
   · exact ⟨h, rfl⟩
theorem pick_len {σ : Type} (S : Pl σ) (h : S.hand < S.fs.length) : S.pick.1 < S.fs.length ∧ S.pick.2.fs.length = S.fs.length := by
 unfold Pl.pick
 split
 · rename_i i hi
   exact ⟨(List.findIdx?_eq_some_iff_getElem.1 hi).1, rfl⟩
 · exact clock_len 65 S h
theorem free_len {Φ : Back} (S : Pl Φ.σ) (h : S.hand < S.fs.length) : S.free.2.1 < S.free.2.2.fs.length := by
 have h1 := pick_len S h
 unfold Pl.free
 split
 · show S.pick.1 < (S.pick.2.wrote _).2.fs.length
   rw [(wrote_fs _ _).1, h1.2]
   exact h1.1
 · show S.pick.1 < S.pick.2.fs.length
   rw [h1.2]
   exact h1.1
section
variable {Φ : Back} {w0 w w' : World} {P G : Nat} {xs bl : List Nat} {vs : List Value} {S : Pl Φ.σ}
set_option maxHeartbeats 1000000 in
set_option maxRecDepth 100000 in
theorem put_any (h : PoolAt Φ w0 w P G xs S) (m : Int) (g c : Nat) (bs : List UInt8) (hl : bs.length = 512) (hg : g ∈ xs) (hs : SrcAt w g 0 bs) (lsn : Int) (h1 : -9223372036854775808 ≤ lsn) (h2 : lsn ≤ 9223372036854775807) (hpg : S.sound Φ.n) (hwr : S.wr ≤ 1000000) :
 Calls Tryz.prog 97 #[.pointer (some ⟨P, 0, none⟩), .int .i64 m, .slice (some ⟨g, 0, none⟩) 512 c, .int .i64 lsn] w fun e w' => e = .returned (.int .i64 (S.put Φ.n m bs lsn).1) ∧ PoolAt Φ w0 w' P G xs (S.put Φ.n m bs lsn).2 ∧ Kept xs w w' := by
 obtain ⟨bl, vs, h⟩ := h
 have c0 := h.c0
 have HPG := hide (Φ.pages h.bk)
 have hgG : g ≠ G := fun e => h.gb (by rw [← e]; simp [hg])
 by_cases ha : m < 0 ∨ (Φ.n : Int) ≤ m ∨ lsn < 1
 · have HPU : Hid (S.put Φ.n m bs lsn = (1, S)) := by show _ = _; unfold Pl.put; rw [if_pos ha]
   have H := hide h
   clear h hpg hs
   by_cases hm0 : m < 0
   · clear ha
     go_enter Tryz.func97, Tryz.ntmps97
     go_wp2_with (go_at_call 123; refine HPG.out.mono ?_; rintro e w' ⟨rfl, hw⟩; have hw := hw.symm; subst hw)
     go_ret
     rw [HPU.out]
     exact ⟨rfl, H.out.at, Kept.refl _ _⟩
   · by_cases hm1 : (Φ.n : Int) ≤ m
     · clear ha
       go_enter Tryz.func97, Tryz.ntmps97
       go_wp2_with (go_at_call 123; refine HPG.out.mono ?_; rintro e w' ⟨rfl, hw⟩; have hw := hw.symm; subst hw)
       go_ret
       rw [HPU.out]
       exact ⟨rfl, H.out.at, Kept.refl _ _⟩
     · have hl1 : lsn < 1 := by omega
       clear ha
       go_enter Tryz.func97, Tryz.ntmps97
       go_wp2_with (go_at_call 123; refine HPG.out.mono ?_; rintro e w' ⟨rfl, hw⟩; have hw := hw.symm; subst hw)
       go_ret
       rw [HPU.out]
       exact ⟨rfl, H.out.at, Kept.refl _ _⟩
 · have hm0 : ¬ m < 0 := by omega
   have hm1 : ¬ (Φ.n : Int) ≤ m := by omega
   have hl1 : ¬ lsn < 1 := by omega
   have HFI := hide (find_any h m)
   cases hf : S.find m with
   | some i =>
     obtain ⟨f, hfi, hfd, hhe, hpm, hfm, hi⟩ := find_some hf
     have HPU : Hid (S.put Φ.n m bs lsn = (0, { S with fs := S.fs.set i (f.changed bs lsn) })) := by show _ = _; unfold Pl.put; rw [if_neg ha, hf]; simp only [hfd]
     have HCH := hide (change_any h i f hfi g c bs hs hl hgG lsn h1 h2)
     rw [hf] at HFI
     have HFI : Hid (Calls Tryz.prog 82 #[.pointer (some ⟨P, 0, none⟩), .int .i64 m] w fun e w' => e = .returned (.pointer (some ⟨G, i * 7, none⟩)) ∧ w' = w) := HFI
     clear h hpg hs hf hfi hfd hhe hpm hfm ha
     go_enter Tryz.func97, Tryz.ntmps97
     go_wp2_with (first
      | (go_at_call 123; refine HPG.out.mono ?_; rintro e w' ⟨rfl, hw⟩; have hw := hw.symm; subst hw)
      | (go_at_call 82; refine HFI.out.mono ?_; rintro e w' ⟨rfl, hw⟩; have hw := hw.symm; subst hw)
      | (go_at_call 124; refine HCH.out.mono ?_; rintro e w3 ⟨rfl, h3, hK3⟩; have H3 := hide (And.intro h3 hK3); clear h3 hK3))
     go_ret
     rw [HPU.out]
     exact ⟨rfl, H3.out.1, H3.out.2⟩
   | none =>
     have HFR := hide (free_any h hpg hwr)
     have hlen := free_len S h.hand
     have HPU : Hid (S.put Φ.n m bs lsn = if S.free.1 ≠ 0 then (S.free.1, S.free.2.2) else (0, { S.free.2.2 with fs := S.free.2.2.fs.set S.free.2.1 ((Fm.fresh m).changed bs lsn) })) := by show _ = _; unfold Pl.put; rw [if_neg ha, hf]
     rw [hf] at HFI
     have HFI : Hid (Calls Tryz.prog 82 #[.pointer (some ⟨P, 0, none⟩), .int .i64 m] w fun e w' => e = .returned (.pointer none) ∧ w' = w) := HFI
     obtain ⟨⟨x, i, T⟩, hT⟩ : ∃ T, S.free = T := ⟨_, rfl⟩
     rw [hT] at HFR HPU hlen
     have HL := hide hlen
     have HS := hide hs
     clear h hpg hf ha hT hlen hs
     by_cases hx : x = 0
     · subst hx
       rw [if_neg (by simp)] at HPU
       have HFR : Hid (Calls Tryz.prog 95 #[.pointer (some ⟨P, 0, none⟩)] w fun e w' => e = .returned (.tuple #[.pointer (some ⟨G, i * 7, none⟩), .int .i64 0]) ∧ PoolAt Φ w0 w' P G xs T ∧ Kept xs w w') := HFR
       have HHG := hide hg
       clear hg
       go_enter Tryz.func97, Tryz.ntmps97
       go_wp2_with (first
        | (go_at_call 123; refine HPG.out.mono ?_; rintro e w' ⟨rfl, hw⟩; have hw := hw.symm; subst hw)
        | (go_at_call 82; refine HFI.out.mono ?_; rintro e w' ⟨rfl, hw⟩; have hw := hw.symm; subst hw)
        | (go_at_call 95; refine HFR.out.mono ?_; rintro e w3 ⟨rfl, ⟨bl3, vs3, h3⟩, hK3⟩; obtain ⟨w4, r1, r2, r3⟩ := h3.storeAll i HL.out (Fm.fresh m) (.slice none 0 0) (.inl ⟨rfl, rfl⟩) (by simp [Fm.fresh]); have HR1 := hide r1; have HK4 := hide (hK3.trans r3); have HCH := hide (change_any r2 i (Fm.fresh m) (List.getElem?_set_self HL.out) g c bs (HS.out.of HK4.out.1 (HK4.out.2 g HHG.out)) hl (fun e => h3.gb (by rw [← e]; simp [HHG.out])) lsn h1 h2); clear r1 r2 r3 h3 hK3)
        | (refine wpList_store_in rfl 132 _ _ rfl rfl G (i * 7) (fCells (Fm.fresh m) (.slice none 0 0)) w4 rfl rfl HR1.out ?_)
        | (go_at_call 124; refine HCH.out.mono ?_; rintro e w5 ⟨rfl, h5, hK5⟩; have H5 := hide (And.intro h5 hK5); clear h5 hK5))
       go_ret
       rw [HPU.out]
       have h6 := H5.out
       simp only [List.set_set] at h6
       exact ⟨rfl, h6.1, HK4.out.trans h6.2⟩
     · have hxb : (x != 0) = true := by simpa using hx
       rw [if_pos hx] at HPU
       have HFR : Hid (Calls Tryz.prog 95 #[.pointer (some ⟨P, 0, none⟩)] w fun e w' => e = .returned (.tuple #[.pointer none, .int .i64 x]) ∧ PoolAt Φ w0 w' P G xs T ∧ Kept xs w w') := by
        have := HFR
        simp only [if_neg hx] at this
        exact this
       go_enter Tryz.func97, Tryz.ntmps97
       go_wp2_with (first
        | (go_at_call 123; refine HPG.out.mono ?_; rintro e w' ⟨rfl, hw⟩; have hw := hw.symm; subst hw)
        | (go_at_call 82; refine HFI.out.mono ?_; rintro e w' ⟨rfl, hw⟩; have hw := hw.symm; subst hw)
        | (go_at_call 95; refine HFR.out.mono ?_; rintro e w3 ⟨rfl, h3, hK3⟩; have H3 := hide (And.intro h3 hK3); clear h3 hK3))
       go_ret
       rw [HPU.out]
       exact ⟨rfl, H3.out.1, H3.out.2⟩
end
end Go.Proofs.YteeembildppgmaaGreat
namespace Go.Proofs.YteeembildppgmaaGreat
open Go.RowKit
set_option linter.unusedVariables false
set_option linter.unusedSimpArgs false
section
variable {Φ : Back} {w0 w w' : World} {P G : Nat} {xs bl : List Nat} {vs : List Value} {S : Pl Φ.σ}
theorem PoolIs.own {g : Nat} (h : PoolIs Φ w0 w P G (g :: xs) bl vs S) (hg : g ∉ xs) : PoolIs Φ w0 w P G xs (g :: bl) vs S :=
 { h with
   bk := Φ.mind h.bk (fun k hk => by
    simp only [List.mem_cons, List.mem_append, List.cons_append] at hk ⊢
    rcases hk with h3 | h3 | h3 | h3 | h3
    · exact .inl h3
    · exact .inr (.inl h3)
    · exact .inr (.inr (.inr (.inl h3)))
    · exact .inr (.inr (.inl h3))
    · exact .inr (.inr (.inr (.inr h3))))
   byt := fun i f v a b => (h.byt i f v a b).stay rfl (Nat.le_refl _) (fun k hk => ⟨by simp [hk], rfl⟩)
   pb := fun hm => h.pb (by
    simp only [List.mem_cons, List.mem_append, List.cons_append] at hm ⊢
    rcases hm with h3 | h3 | h3
    · exact .inr (.inl h3)
    · exact .inl h3
    · exact .inr (.inr h3))
   gb := fun hm => h.gb (by
    simp only [List.mem_cons, List.mem_append, List.cons_append] at hm ⊢
    rcases hm with h3 | h3 | h3
    · exact .inr (.inl h3)
    · exact .inl h3
    · exact .inr (.inr h3))
   bx := fun k hk hm => by
    rcases List.mem_cons.1 hk with h3 | h3
    · subst h3; exact hg hm
    · exact h.bx k h3 (by simp [hm]) }
theorem pool_fread (h : PoolIs Φ w0 w P G xs bl vs S) (i : Nat) (hi : i < Φ.n) :
 Calls Tryz.prog 94 #[.pointer (some ⟨Φ.q, 0, none⟩), .int .i64 (i : Int)] w fun e w' => ∃ g, e = .returned (.tuple #[.slice (some ⟨g, 0, none⟩) 512 512, .int .i64 0]) ∧ w.heap.size ≤ g ∧ w'.heap[g]? = some (.cells (secCells (Φ.disk S.fo i)).toArray 5 (0, 0)) ∧
  PoolIs Φ w0 w' P G (g :: xs) bl vs S ∧ Kept xs w w' := by
 refine (Φ.fread h.bk hi).mono ?_
 rintro e w' ⟨g, rfl, hg, hblk, hF, hK⟩
 have lt : ∀ k ∈ P :: G :: (bl ++ xs), k < w.heap.size := fun k hk => Φ.lts h.bk hk
 have y := h.kept S.fo (Φ.mind hF (fun k hk => by simp only [List.mem_cons] at hk ⊢; exact .inr hk)) hK
 refine ⟨g, rfl, hg, hblk, { y with
  bk := Φ.mind hF (fun k hk => by
   simp only [List.mem_cons, List.mem_append] at hk ⊢
   rcases hk with h3 | h3 | h3 | h3 | h3
   · exact .inr (.inl h3)
   · exact .inr (.inr (.inl h3))
   · exact .inr (.inr (.inr (.inl h3)))
   · exact .inl h3
   · exact .inr (.inr (.inr (.inr h3))))
  pb := fun hm => by
   simp only [List.mem_cons, List.mem_append] at hm
   rcases hm with h3 | h3 | h3
   · exact h.pb (by simp [h3])
   · have := lt P (by simp); omega
   · exact h.pb (by simp [h3])
  gb := fun hm => by
   simp only [List.mem_cons, List.mem_append] at hm
   rcases hm with h3 | h3 | h3
   · exact h.gb (by simp [h3])
   · have := lt G (by simp); omega
   · exact h.gb (by simp [h3])
  bx := fun k hk hm => by
   rcases List.mem_cons.1 hm with h3 | h3
   · have := lt k (by simp [hk]); omega
   · exact h.bx k hk h3 }, hK.mono (fun k hk => by simp [hk])⟩

set_option maxHeartbeats 1000000 in
set_option maxRecDepth 100000 in
theorem get_ok (h : PoolAt Φ w0 w P G xs S) (m : Int) (hpg : S.sound Φ.n) (hfu : S.full) (hwr : S.wr ≤ 1000000) (hz : (S.get Φ.n m).2.1 = 0) :
 Calls Tryz.prog 62 #[.pointer (some ⟨P, 0, none⟩), .int .i64 m] w fun e w' => ∃ g c cur, e = .returned (.tuple #[.slice (some ⟨g, 0, none⟩) 512 c, .int .i64 0]) ∧ w.heap.size ≤ g ∧ BlkAt w' g c (S.get Φ.n m).1 cur ∧ PoolAt Φ w0 w' P G (g :: xs) (S.get Φ.n m).2.2 ∧ Kept xs w w' := by
 obtain ⟨bl, vs, h⟩ := h
 have HFI := hide (find_any h m)
 cases hf : S.find m with
 | some i =>
   obtain ⟨f, hfi, hfd, hhe, hpm, hfm, hi⟩ := find_some hf
   have HGE : Hid (S.get Φ.n m = (f.bs, 0, { S with fs := S.fs.set i { f with asked := true } })) := by show _ = _; unfold Pl.get; rw [hf]; simp only [hfd]
   have hb5 := hfu f hfm hhe
   obtain ⟨v, hv, hB, _, _, _, _, d3, _⟩ := h.cells i f hfi
   have g3 := h.fzG (i * 7 + 3)
   have hO : Off [G] w (w.setCell ⟨G, i * 7 + 3, none⟩ (.bool true)) := (Off.refl _ _).setCell _ _ (by simp)
   have HK1 := hide (h.keptG hO)
   have h1 := h.mark i f hfi true
   obtain ⟨v1, hv1, hB1, _, _, _, k2, _⟩ := h1.cells i { f with asked := true } (List.getElem?_set_self hi)
   rw [hv] at hv1
   cases hv1
   rcases hB1 with ⟨hb0, _⟩ | ⟨g, c, rfl, hc, hb5', hgb, hsr⟩
   · have hb0 : f.bs = [] := hb0
     rw [hb0] at hb5
     simp at hb5
   have hsr : SrcAt (w.setCell ⟨G, i * 7 + 3, none⟩ (.bool true)) g 0 f.bs := hsr
   have HCL := hide (clone_any (c := c) hsr hb5)
   have H1 := hide h1
   rw [hf] at HFI
   have HFI : Hid (Calls Tryz.prog 82 #[.pointer (some ⟨P, 0, none⟩), .int .i64 m] w fun e w' => e = .returned (.pointer (some ⟨G, i * 7, none⟩)) ∧ w' = w) := HFI
   clear h hpg hfu hf hfi hfd hhe hpm hfm hB hv hO h1 hsr hgb hb5' hb5 hz
   go_enter Tryz.func62, Tryz.ntmps62
   go_wp2_with (first
    | (go_at_call 82; refine HFI.out.mono ?_; rintro e w' ⟨rfl, hw⟩; have hw := hw.symm; subst hw)
    | (go_at_call 93; refine HCL.out.mono ?_; rintro e w2 ⟨g', c', cur, rfl, hg', hk, hb⟩; have H2 := hide (And.intro hg' (And.intro hk hb)); clear hg' hk hb))
   go_ret2
   rw [HGE.out]
   have hsz : w.heap.size ≤ (w.setCell ⟨G, i * 7 + 3, none⟩ (.bool true)).heap.size := HK1.out.1
   refine ⟨g', c', cur, rfl, Nat.le_trans hsz H2.out.1, H2.out.2.1, (H1.out.mindNew H2.out.2.2 (fun k hk => ?_)).at, HK1.out.trans ⟨H2.out.2.2.size, fun k hk => H2.out.2.2.block k (Φ.lts H1.out.bk (by simp [hk]))⟩⟩
   rcases List.mem_cons.1 hk with h3 | h3
   · subst h3
     exact .inr ⟨H2.out.1, H2.out.2.1.lt⟩
   · exact .inl h3
 | none =>
   have c0 := h.c0
   have HGE0 : Hid (S.get Φ.n m = if m < 0 ∨ (Φ.n : Int) ≤ m then ([], 1, S) else if S.free.1 ≠ 0 then ([], S.free.1, S.free.2.2) else (Φ.disk S.fo m.toNat, 0, { S.free.2.2 with fs := S.free.2.2.fs.set S.free.2.1 (Fm.read m (Φ.disk S.fo m.toNat)) })) := by show _ = _; unfold Pl.get; rw [hf]
   have hin : ¬ (m < 0 ∨ (Φ.n : Int) ≤ m) := fun hc => by
    have := HGE0.out
    rw [if_pos hc] at this
    rw [this] at hz
    simp at hz
   have hfz : S.free.1 = 0 := by
    by_cases hc : S.free.1 = 0
    · exact hc
    · have := HGE0.out
      rw [if_neg hin, if_pos hc] at this
      rw [this] at hz
      exact hz
   have hlen := free_len S h.hand
   obtain ⟨⟨x, i, T⟩, hT⟩ : ∃ T, S.free = T := ⟨_, rfl⟩
   obtain ⟨k, rfl⟩ : ∃ k : Nat, m = (k : Int) := ⟨m.toNat, by omega⟩
   have hkn : k < Φ.n := by omega
   have HGE : Hid (S.get Φ.n (k : Int) = (Φ.disk S.fo k, 0, { T with fs := T.fs.set i (Fm.read (k : Int) (Φ.disk S.fo k)) })) := by
    show _ = _
    rw [HGE0.out, if_neg hin, if_neg (by rw [hfz]; simp), hT]
    rfl
   have h5 := Φ.d512 h.bk hkn
   have HRD := hide (pool_fread h k hkn)
   have HFREE := hide (fun (W : World) (bl : List Nat) (vs : List Value) (g : Nat) (hW : PoolIs Φ w0 W P G (g :: xs) bl vs S) => free_any hW hpg hwr)
   rw [hT] at hlen hfz HFREE
   have hfz : x = 0 := hfz
   subst hfz
   have HLT : Hid (∀ k ∈ xs, k < w.heap.size) := fun k hk => Φ.lts h.bk (by simp [hk])
   have HL := hide hlen
   rw [hf] at HFI
   have HFI : Hid (Calls Tryz.prog 82 #[.pointer (some ⟨P, 0, none⟩), .int .i64 (k : Int)] w fun e w' => e = .returned (.pointer none) ∧ w' = w) := HFI
   clear h hpg hfu hf hT hlen HGE0 hin hz
   generalize Φ.disk S.fo k = bs at *
   go_enter Tryz.func62, Tryz.ntmps62
   go_wp2_with (first
    | (go_at_call 82; refine HFI.out.mono ?_; rintro e w' ⟨rfl, hw⟩; have hw := hw.symm; subst hw)
    | (go_at_call 94; refine HRD.out.mono ?_; rintro e w2 ⟨g, rfl, hg, hblk, h2, hK2⟩; have HFR := hide (HFREE.out w2 bl vs g h2); have H2 := hide (And.intro hg (And.intro hblk hK2)); clear hg hblk hK2 h2 HFREE)
    | (go_at_call 95; refine HFR.out.mono ?_; rintro e w3 ⟨rfl, ⟨bl3, vs3, h3⟩, hK3⟩; have hgx : g ∉ xs := fun hm => by have := HLT.out g hm; have := H2.out.1; omega
       have hsr : SrcAt w3 g 0 bs := (SrcAt.block H2.out.2.1).of hK3.1 (hK3.2 g (by simp))
       obtain ⟨w4, r1, r2, r3⟩ := (h3.own hgx).storeAll i HL.out (Fm.read (k : Int) bs) (.slice (some ⟨g, 0, none⟩) 512 512) (.inr ⟨g, 512, rfl, Nat.le_refl _, h5, by simp, hsr⟩) (by simp [Fm.read]); have HR1 := hide r1
       have hsr4 : SrcAt w4 g 0 bs := by
        obtain ⟨v4, hv4, hB4, _⟩ := r2.cells i (Fm.read (k : Int) bs) (List.getElem?_set_self HL.out)
        rw [List.getElem?_set_self (by have := r2.vlen; simp at this; rw [this]; exact HL.out)] at hv4
        cases hv4
        rcases hB4 with ⟨_, hb4⟩ | ⟨g4, c4, hb4, _, _, _, hs4⟩
        · cases hb4
        · cases hb4
          exact hs4
       have HCL := hide (clone_any (c := 512) hsr4 h5)
       have H4 := hide (And.intro r2 (H2.out.2.2.trans ((hK3.mono (fun k hk => by simp [hk])).trans r3)))
       clear r1 r2 r3 h3 hK3 hsr hsr4)
    | (refine wpList_store_in rfl 132 _ _ rfl rfl G (i * 7) (fCells (Fm.read (k : Int) bs) (.slice (some ⟨g, 0, none⟩) 512 512)) w4 rfl rfl HR1.out ?_)
    | (go_at_call 93; refine HCL.out.mono ?_; rintro e w5 ⟨g', c', cur, rfl, hg', hk, hb⟩; have H5 := hide (And.intro hg' (And.intro hk hb)); clear hg' hk hb))
   go_ret2
   rw [HGE.out]
   refine ⟨g', c', cur, rfl, Nat.le_trans H4.out.2.1 H5.out.1, H5.out.2.1, (H4.out.1.mindNew H5.out.2.2 (fun k hk => ?_)).at, H4.out.2.trans ⟨H5.out.2.2.size, fun k hk => H5.out.2.2.block k (Φ.lts H4.out.1.bk (by simp [hk]))⟩⟩
   rcases List.mem_cons.1 hk with h3 | h3
   · subst h3
     exact .inr ⟨H5.out.1, H5.out.2.1.lt⟩
   · exact .inl h3
end
end Go.Proofs.YteeembildppgmaaGreat
namespace Go.Proofs.YteeembildppgmaaGreat
open Go.RowKit
set_option linter.unusedVariables false
set_option linter.unusedSimpArgs false
def zeroFr : Array Value := #[.bool false, .int .i64 0, .slice none 0 0, .bool false, .bool false, .int .i64 0, .int .i64 0]
theorem Tryz.info132 : (Tryz.prog.info? 132).map (fun i => (i.zero, i.size, i.bytes)) = some (some (.agg zeroFr), 7, 64) := by kernel_rfl
theorem made_frames (m : Nat) : madeCells zeroFr (m * 7) = (rowF (List.replicate m Fm.nil) (List.replicate m (.slice none 0 0))).toArray := by
 have hl := rowF_length (List.replicate m Fm.nil) (List.replicate m (Value.slice none 0 0)) (by simp)
 apply Array.ext
 · simp [madeCells, hl]
 · intro j h1 h2
   have hj : j < m * 7 := by simpa [madeCells] using h1
   simp only [madeCells, Array.getElem_map, Array.getElem_range, List.getElem_toArray]
   have hg := rowF_get (List.replicate m Fm.nil) (List.replicate m (Value.slice none 0 0)) (by simp) (j / 7) (by simp; omega) (j % 7) (by omega)
   rw [show j / 7 * 7 + j % 7 = j by omega, List.getElem?_eq_getElem (by rw [hl]; simpa using hj)] at hg
   simp only [List.getElem_replicate] at hg
   have hc : j % 7 = 0 ∨ j % 7 = 1 ∨ j % 7 = 2 ∨ j % 7 = 3 ∨ j % 7 = 4 ∨ j % 7 = 5 ∨ j % 7 = 6 := by omega
   have hz : zeroFr.size = 7 := rfl
   rw [hz]
   rcases hc with e | e | e | e | e | e | e <;> rw [e] at hg ⊢ <;> exact (Option.some.inj hg).symm
theorem makeFrames (m : Nat) (w : World) (h2 : m ≤ 64) : (Instr.makeSlice 145 (.int .i64 (m : Int)) (.int .i64 (m : Int))).run Tryz.prog w = .ok (.slice (some ⟨w.heap.size, 0, none⟩) m m) (w.alloc (.cells (rowF (List.replicate m Fm.nil) (List.replicate m (.slice none 0 0))).toArray 132)) := by
 obtain ⟨i, hi, hz⟩ := Option.map_eq_some_iff.1 Tryz.info132
 simp only [Prod.mk.injEq] at hz
 obtain ⟨hz, hs, hb⟩ := hz
 have h := run_make (P := Tryz.prog) w 145 132 i _ Tryz.underlying145 hi hz .i64 .i64 (m : Int) (m : Int) (by omega) (by omega) (by rw [hb]; omega) (by omega)
 rw [h, hs, ← made_frames]
 rfl
def Pl.made {σ : Type} (m : Nat) (s : σ) : Pl σ := ⟨List.replicate m Fm.nil, 0, 0, s⟩
section
variable {Φ : Back} {w0 w w' : World} {P G : Nat} {xs bl : List Nat} {vs : List Value} {S : Pl Φ.σ}
set_option maxHeartbeats 1000000 in
set_option maxRecDepth 100000 in
theorem newp_ok (m : Nat) (h1 : 1 ≤ m) (h2 : m ≤ 64) (s : Φ.σ) (hF : Φ.held w0 w xs s) :
 Calls Tryz.prog 74 #[.pointer (some ⟨Φ.q, 0, none⟩), .int .i64 (m : Int), Φ.fv] w fun e w' => ∃ P G, e = .returned (.tuple #[.pointer (some ⟨P, 0, none⟩), .int .i64 0]) ∧ PoolAt Φ w0 w' P G xs (Pl.made m s) ∧ w.heap.size ≤ P ∧ Below w.heap.size w w' := by
 have hmk := makeFrames m w h2
 obtain ⟨w1, hw1⟩ : ∃ w1, w.alloc (.cells (rowF (List.replicate m Fm.nil) (List.replicate m (.slice none 0 0))).toArray 132) = w1 := ⟨_, rfl⟩
 have hb1 : Below w.heap.size w w1 := by rw [← hw1]; exact (Below.refl _ _).alloc (Nat.le_refl _) _
 have hg1 : w1.heap[w.heap.size]? = some (.cells (rowF (List.replicate m Fm.nil) (List.replicate m (.slice none 0 0))).toArray 132 (0, 0)) := by rw [← hw1]; exact heap_alloc_new w _
 have hz1 : w1.heap.size = w.heap.size + 1 := by rw [← hw1]; simp
 rw [hw1] at hmk
 have HB1 := hide hb1
 have HG1 := hide hg1
 have HZ1 := hide hz1
 have HF := hide hF
 clear hw1 hb1 hg1 hz1 hF
 have hmm : ¬ ((m : Int) < 1) := by omega
 have hmm' : ¬ ((m : Int) > 64) := by omega
 have q33 : ∀ W : World, (binOp .eql 41 (.func (.func Φ.g) #[] Φ.cb) .nilFunc).run Tryz.prog W = .ok (.bool false) W := fun W => by
  kernel_rfl
 unfold Back.fv
 go_enter Tryz.func74, Tryz.ntmps74
 go_wp2
 go_ret2
 have hP : (w1.alloc (.cells #[.pointer (some ⟨Φ.q, 0, none⟩), .func (.func Φ.g) #[] Φ.cb, .slice (some ⟨w.heap.size, 0, none⟩) m m, .int .i64 0, .int .i64 0] 147)).heap[w1.heap.size]? = some (.cells #[.pointer (some ⟨Φ.q, 0, none⟩), .func (.func Φ.g) #[] Φ.cb, .slice (some ⟨w.heap.size, 0, none⟩) m m, .int .i64 0, .int .i64 0] 147 (0, 0)) := heap_alloc_new w1 _
 have hB : Below w1.heap.size w1 (w1.alloc (.cells #[.pointer (some ⟨Φ.q, 0, none⟩), .func (.func Φ.g) #[] Φ.cb, .slice (some ⟨w.heap.size, 0, none⟩) m m, .int .i64 0, .int .i64 0] 147)) := (Below.refl _ _).alloc (Nat.le_refl _) _
 have hz2 : (w1.alloc (.cells #[.pointer (some ⟨Φ.q, 0, none⟩), .func (.func Φ.g) #[] Φ.cb, .slice (some ⟨w.heap.size, 0, none⟩) m m, .int .i64 0, .int .i64 0] 147)).heap.size = w1.heap.size + 1 := by simp
 refine ⟨_, rfl, ⟨w.heap.size, ?_⟩, HB1.out.size, HB1.out.trans (hB.mono HB1.out.size)⟩
 generalize w1.alloc (.cells #[.pointer (some ⟨Φ.q, 0, none⟩), .func (.func Φ.g) #[] Φ.cb, .slice (some ⟨w.heap.size, 0, none⟩) m m, .int .i64 0, .int .i64 0] 147) = w2 at *
 have hB2 : Below w.heap.size w w2 := HB1.out.trans (hB.mono HB1.out.size)
 have hz := HZ1.out
 have lt : ∀ k ∈ xs, k < w.heap.size := fun k hk => Φ.lts HF.out hk
 have hw0 := (Φ.below HF.out).size
 refine ⟨[], List.replicate m (.slice none 0 0), ?_⟩
 exact {
  bk := Φ.mindNew HF.out hB2 (fun k hk => by
   simp only [List.mem_cons, List.nil_append] at hk
   rcases hk with h3 | h3 | h3
   · subst h3; exact .inr ⟨by omega, by omega⟩
   · subst h3; exact .inr ⟨by omega, by omega⟩
   · exact .inl h3)
  head := by rw [hP]; simp [Pl.made, Back.fv]
  row := (hB.block _ (by omega)).trans HG1.out
  vlen := by simp [Pl.made]
  byt := fun i f v h3 h4 => by
   have e3 := List.mem_of_getElem? h3
   have e4 := List.mem_of_getElem? h4
   obtain ⟨_, e3⟩ := List.mem_replicate.1 e3
   obtain ⟨_, e4⟩ := List.mem_replicate.1 e4
   exact .inl ⟨by rw [e3]; rfl, e4⟩
  pg := by omega
  pb := fun hm => by have := lt _ (by simpa using hm); omega
  gb := fun hm => by have := lt _ (by simpa using hm); omega
  bx := fun k hk => by simp at hk
  p0 := by omega
  g0 := hw0
  f1 := by simpa [Pl.made] using h1
  f2 := by simpa [Pl.made] using h2
  hand := by simp [Pl.made]; omega
  lsn := fun f hf => by
   obtain ⟨_, e3⟩ := List.mem_replicate.1 hf
   rw [e3]
   simp [Fm.nil] }

open Go.Sort hiding Below
def encD (x : Int × Int) : List Value := [.int .i64 x.1, .int .i64 x.2]
set_option maxHeartbeats 1000000 in
theorem less_any (x y : Int × Int) (W : World) : Calls Tryz.prog 118 #[.agg #[.int .i64 x.1, .int .i64 x.2], .agg #[.int .i64 y.1, .int .i64 y.2]] W fun e w' => e = .returned (.int .i64 (Lib.compareInt x.1 y.1)) ∧ ∃ q os', w' = grow (W.drewN q) os' := by
 have hcon := fun W' => AnyG.cmp_Compare_int Tryz.cmpInt x.1 y.1 W'
 change ∀ W', Calls Tryz.prog 119 _ _ _ at hcon
 generalize Lib.compareInt x.1 y.1 = r at hcon ⊢
 go_enter Tryz.func118, Tryz.ntmps118
 go_wp2_with (go_at_call 119; refine (hcon _).mono ?_; rintro e w' ⟨rfl, rfl⟩)
 go_ret
 exact ⟨rfl, 0, _, by rw [alloc_eq_grow, alloc_eq_grow, grow_grow]; rfl⟩
theorem len_any (n : Nat) (W : World) (h : n ≤ 12) : Calls Tryz.prog 147 #[.int .u64 n] W fun e w' => (∃ l : Int, e = .returned (.int .i64 l)) ∧ w' = W :=
 (Any.bits_Len Tryz.bitsLen n W (by omega) (by omega)).mono fun _ _ ⟨he, hw⟩ => ⟨⟨_, he⟩, hw⟩
theorem swoD : SWO (ltOf fun x y : Int × Int => Lib.compareInt x.1 y.1) := by
 have key : ∀ x y : Int × Int, ltOf (fun x y : Int × Int => Lib.compareInt x.1 y.1) x y = decide (x.1 < y.1) := fun x y => by
  simp only [ltOf, Lib.compareInt]
  split
  · simp [*]
  · split
    · simp [*]
    · simp [*]
 refine ⟨fun x => by rw [key]; simp, fun x y z h1 h2 => ?_, fun x y z h1 h2 => ?_⟩
 · rw [key] at h1 h2 ⊢; simp at h1 h2 ⊢; omega
 · rw [key] at h1 h2 ⊢; simp at h1 h2 ⊢; omega
theorem ltD (x y : Int × Int) : ltOf (fun x y : Int × Int => Lib.compareInt x.1 y.1) x y = decide (x.1 < y.1) := by
 simp only [ltOf, Lib.compareInt]
 split
 · simp [*]
 · split
   · simp [*]
   · simp [*]
theorem off_sort (w : World) (g off m : Nat) (d : Array (Int × Int)) (os : Array Obj) : Off [g] w (sortWorldK encD 2 w g off m d os) := by
 refine ⟨rfl, rfl, rfl, ?_, fun k hk hn => ?_⟩
 · simp [sortWorldK, grow, putRowK, putRow, mapBlock, Go.Sort.ahead]
 · have hne : ¬ g = k := fun e => hn (by simp [e])
   simp [sortWorldK, grow, putRowK, putRow, mapBlock, Go.Sort.ahead, Array.getElem?_append, hk, Array.getElem_modify, hne]
theorem sort_any (g cap : Nat) (d : Array (Int × Int)) (w : World) (hH : HoldsK encD 2 w g 0 d) (hg : g < w.heap.size) (h12 : d.size ≤ 12) :
 Calls Tryz.prog 117 #[.slice (some ⟨g, 0, none⟩) d.size cap, .func (.func 118) #[] #[]] w fun e w' => e = .returned (.tuple #[]) ∧ ∃ d' : Array (Int × Int), d'.toList.Perm d.toList ∧ d'.size = d.size ∧ d'.toList.Pairwise (fun x y => x.1 ≤ y.1) ∧ HoldsK encD 2 w' g 0 d' ∧ Off [g] w w' := by
 have eg : ∀ args w, (callFunc 118 args).run Tryz.prog w = .ok (.enter 118 args) w := enters_of Tryz.func118 (by kernel_rfl) rfl
 have hcmp : CmpLays Tryz.prog 118 #[] encD 2 (fun x y => Lib.compareInt x.1 y.1) g 0 d.size w := fun _ _ _ _ x y => less_any x y _
 have hcon := AnyQ.slices_SortFunc_small_sorted Tryz.sortD 2 Tryz.isAgg142 Tryz.sizeOf142 encD (fun _ => rfl) (fun x v hv => by simp [encD] at hv; rcases hv with rfl | rfl <;> rfl) (fun x y => Lib.compareInt x.1 y.1) 118 #[] swoD g 0 cap d w eg hcmp hH hg h12 len_any
 change Calls Tryz.prog 117 _ _ _ at hcon
 refine hcon.mono ?_
 rintro e w' ⟨rfl, d', n, os, hp, hs, rfl⟩
 obtain ⟨hp1, hp2, hp3⟩ := hp
 refine ⟨rfl, d', ?_, hp1, ?_, ?_, off_sort w g 0 n d' os⟩
 · have e1 : d'.extract 0 d.size = d' := by rw [← hp1]; simp
   have e2 : d.extract 0 d.size = d := by simp
   rw [e1, e2] at hp3
   exact hp3
 · rw [List.pairwise_iff_getElem]
   intro i j hi hj hij
   have := hs i j (Nat.zero_le _) hij (by rw [← hp1]; simpa using hj)
   rw [ltD, getElem!_pos d' j (by simpa using hj), getElem!_pos d' i (by simpa using hi)] at this
   simpa using this
 · have hb : g < (putRowK encD 2 (Go.Sort.ahead w n) g 0 d').heap.size := by
    have : (putRowK encD 2 (Go.Sort.ahead w n) g 0 d').heap.size = w.heap.size := by simp [putRowK, putRow, mapBlock, Go.Sort.ahead]
    omega
   exact holdsK_grow encD 2 _ _ _ _ _ hb (holdsK_putRowK encD 2 _ _ _ d d' (holdsK_ahead encD 2 _ _ _ _ _ hH) hp1)
end
end Go.Proofs.YteeembildppgmaaGreat
