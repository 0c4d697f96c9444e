/- A part of it: RFind ROpen RWell RBoth. -/
import Derived.Test.YteeembildppgmaaGreatM8
namespace Go.Proofs.YteeembildppgmaaGreat
open Go.RowKit
set_option linter.unusedVariables false
set_option linter.unusedSimpArgs false
def scan (rd : Nat → List UInt8) : Nat → Nat → Nat → List UInt8
 | _, 0, _ => []
 | s, k + 1, skip => if (got (rd s) s skip).length < 118 - skip then got (rd s) s skip else got (rd s) s skip ++ scan rd (s + 1) k 0
theorem got_len (bs : List UInt8) (s skip : Nat) (hl : bs.length = 128) : (got bs s skip).length = @ite Nat (isThere bs s skip) (isThereD bs s skip) (cntOf bs - skip) 0 := by
 unfold got
 split
 · rename_i h
   have := h.2.2.1
   have := h.2.2.2
   rw [List.length_take, List.length_drop, hl]
   omega
 · rfl
theorem got_le (bs : List UInt8) (s skip : Nat) (hl : bs.length = 128) : (got bs s skip).length ≤ 118 - skip := by
 rw [got_len bs s skip hl]
 split
 · rename_i h
   have := h.2.2.1
   omega
 · omega
theorem scan_le (rd : Nat → List UInt8) (hl : ∀ s, (rd s).length = 128) : ∀ k s skip, (scan rd s k skip).length ≤ k * 118
 | 0, _, _ => by simp [scan]
 | k + 1, s, skip => by
   have h1 := got_le (rd s) s skip (hl s)
   have h2 := scan_le rd hl k (s + 1) 0
   unfold scan
   split
   · omega
   · rw [List.length_append]; omega

structure RawIs (w : World) (q p : Nat) (gp : List Nat) (R : Rg) (hv : Value) : Prop where
 head : w.heap[q]? = some (.cells #[.pointer (some ⟨p, 0, none⟩), .int .i64 R.fr, .int .i64 R.n, .int .i64 R.start, .int .i64 R.fin, hv, .bool R.failed] 136 (0, 0))
 held : Held w hv R.held
 ne : hv.ownBlock ≠ some q
 inQ : q ∈ gp
 inH : ∀ k, hv.ownBlock = some k → k ∈ gp
 lim : ∀ k ∈ gp, k < w.heap.size
section
variable {w w' : World} {q p : Nat} {gp : List Nat} {R : Rg} {hv : Value}
theorem RawIs.is (h : RawIs w q p gp R hv) (hf : R.wf) : RgIs w q p gp R hv := ⟨hf, h.head, h.held, h.ne, h.inQ, h.inH, h.lim⟩
theorem RawIs.c0 (h : RawIs w q p gp R hv) : w.cell? ⟨q, 0, none⟩ = some (.pointer (some ⟨p, 0, none⟩)) := by rw [cell_of_row w q 0 _ _ _ h.head]; rfl
theorem RawIs.c1 (h : RawIs w q p gp R hv) : w.cell? ⟨q, 1, none⟩ = some (.int .i64 R.fr) := by rw [cell_of_row w q 1 _ _ _ h.head]; rfl
theorem RawIs.c2 (h : RawIs w q p gp R hv) : w.cell? ⟨q, 2, none⟩ = some (.int .i64 R.n) := by rw [cell_of_row w q 2 _ _ _ h.head]; rfl
theorem RawIs.c3 (h : RawIs w q p gp R hv) : w.cell? ⟨q, 3, none⟩ = some (.int .i64 R.start) := by rw [cell_of_row w q 3 _ _ _ h.head]; rfl
theorem RawIs.c4 (h : RawIs w q p gp R hv) : w.cell? ⟨q, 4, none⟩ = some (.int .i64 R.fin) := by rw [cell_of_row w q 4 _ _ _ h.head]; rfl
theorem RawIs.c5 (h : RawIs w q p gp R hv) : w.cell? ⟨q, 5, none⟩ = some hv := by rw [cell_of_row w q 5 _ _ _ h.head]; rfl
theorem RawIs.fz (h : RawIs w q p gp R hv) (o : Nat) : w.frozen? ⟨q, o, none⟩ = false := frozen_of_row w q o _ _ h.head
theorem RawIs.lt (h : RawIs w q p gp R hv) : q < w.heap.size := (Array.getElem?_eq_some_iff.1 h.head).1
theorem RawIs.stay (h : RawIs w q p gp R hv) (hs : w.heap.size ≤ w'.heap.size) (hb : ∀ k, (k = q ∨ hv.ownBlock = some k) → w'.heap[k]? = w.heap[k]?) : RawIs w' q p gp R hv :=
 ⟨by rw [hb q (.inl rfl)]; exact h.head, h.held.stay hs (fun k hk => hb k (.inr hk)), h.ne, h.inQ, h.inH, fun k hk => Nat.lt_of_lt_of_le (h.lim k hk) hs⟩
theorem RawIs.apart (h : RawIs w q p gp R hv) {fq : List Nat} (ho : Off fq w w') (hd : ∀ k ∈ gp, k ∉ fq) : RawIs w' q p gp R hv :=
 h.stay ho.size fun k hk => by
  rcases hk with rfl | hk
  · exact ho.block _ h.lt (hd _ h.inQ)
  · exact ho.block _ (h.held.lt k hk) (hd _ (h.inH k hk))
theorem RawIs.drewN (h : RawIs w q p gp R hv) (m : Nat) : RawIs (w.drewN m) q p gp R hv := h.stay (Nat.le_refl _) (fun _ _ => rfl)
theorem RawIs.appended {w6 : World} {v' : Value} {bs : List UInt8} (h : RawIs w q p gp R hv)
 (hh : Held w6 v' (R.held ++ bs)) (hg : w.grownBy w6 hv.ownBlock) (hfr : ∀ k, v'.ownBlock = some k → hv.ownBlock = some k ∨ w.heap.size ≤ k) :
 RawIs (w6.setCell ⟨q, 5, none⟩ v') q p (gp ++ v'.ownBlock.toList) { R with held := R.held ++ bs } v' ∧ Off gp w (w6.setCell ⟨q, 5, none⟩ v') ∧ ∀ k ∈ gp ++ v'.ownBlock.toList, k ∈ gp ∨ w.heap.size ≤ k := by
 have hq6 : w6.heap[q]? = w.heap[q]? := hg.block q h.lt (fun e => h.ne e.symm)
 have n2 : v'.ownBlock ≠ some q := fun e => by
  rcases hfr q e with h1 | h1
  · exact h.ne h1
  · have := h.lt; omega
 have hhd := heap_setCell_same w6 q 5 _ _ v' (hq6.trans h.head)
 have hs6 : (w6.setCell ⟨q, 5, none⟩ v').heap.size = w6.heap.size := by simp [World.setCell]
 refine ⟨⟨hhd, ?_, n2, by simp [h.inQ], fun k hk => by simp [hk], ?_⟩, ?_, ?_⟩
 · exact hh.stay (by omega) (fun k hk => heap_setCell_other w6 _ k v' (fun e => n2 (by rw [hk]; exact congrArg some e)))
 · intro k hk
   rw [hs6]
   rcases List.mem_append.1 hk with hk | hk
   · exact Nat.lt_of_lt_of_le (h.lim k hk) hg.size
   · exact hh.lt k (by simpa using hk)
 · exact ((Off.refl gp w).grown hg (fun k hk => .inl (h.inH k hk))).setCell _ _ (.inl h.inQ)
 · intro k hk
   rcases List.mem_append.1 hk with hk | hk
   · exact .inl hk
   · rcases hfr k (by simpa using hk) with h1 | h1
     · exact .inl (h.inH k h1)
     · exact .inr h1
theorem RawIs.ended (h : RawIs w q p gp R hv) (F : Nat) : RawIs (w.setCell ⟨q, 4, none⟩ (.int .i64 (F : Int))) q p gp { R with fin := F } hv := by
 have hh := heap_setCell_same w q 4 _ _ (.int .i64 (F : Int)) h.head
 refine ⟨hh, ?_, h.ne, h.inQ, h.inH, fun k hk => by simpa [World.setCell] using h.lim k hk⟩
 exact h.held.stay (by simp [World.setCell]) (fun k hk => heap_setCell_other w _ k _ (fun e => h.ne (by rw [hk]; exact congrArg some e)))
end
set_option maxHeartbeats 400000 in
theorem tail_raw {w : World} {q : Nat} {st : Nat} {ao : Option Addr} {n c : Nat} (k3 : w.cell? ⟨q, 3, none⟩ = some (.int .i64 st)) (k5 : w.cell? ⟨q, 5, none⟩ = some (.slice ao n c)) (b1 : st ≤ 2199023255552) (b2 : n ≤ 100000000) :
 Calls Tryz.prog 56 #[.pointer (some ⟨q, 0, none⟩)] w fun e w' => e = .returned (.int .i64 ((st + n : Nat) : Int)) ∧ ∃ m, w' = w.drewN m := by
 go_enter Tryz.func56, Tryz.ntmps56
 go_wp2
 go_quiet (fail)
 go_wp2
 go_ret
 exact ⟨rfl, _, rfl⟩
set_option maxHeartbeats 400000 in
theorem place_raw {w : World} {q fr n : Nat} (s : Nat) (hs : s < 4611686018427387904) (k1 : w.cell? ⟨q, 1, none⟩ = some (.int .i64 fr)) (k2 : w.cell? ⟨q, 2, none⟩ = some (.int .i64 n)) (b1 : 2 ≤ n) (b2 : n ≤ 8192) (b3 : fr ≤ 8192) :
 Calls Tryz.prog 131 #[.pointer (some ⟨q, 0, none⟩), .int .i64 (s : Int)] w fun e w' => e = .returned (.int .i64 ((fr + s % n : Nat) : Int)) ∧ ∃ m, w' = w.drewN m := by
 go_enter Tryz.func131, Tryz.ntmps131
 go_wp2
 go_quiet (fail)
 go_wp2
 go_ret
 refine ⟨?_, _, rfl⟩
 show Ending.returned (Value.int .i64 (wrap64 ((fr : Int) + (s : Int) % (n : Int)))) = _
 have h1 : (s : Int) % (n : Int) = ((s % n : Nat) : Int) := by omega
 have h2 : s % n < n := Nat.mod_lt _ (by omega)
 rw [h1]
 congr 2
 simp only [wrap64]
 omega
theorem got_sl (X : List UInt8) (g s skip : Nat) (t : TypeId) (fr : Nat × Nat) (w : World) (h : w.heap[g]? = some (.cells (secCells X).toArray t fr)) (hX : X.length = 128) (hth : isThere X s skip) :
 Sl w (.slice (some ⟨g, 10 + skip, none⟩) (cntOf X - skip) (118 - skip)) (got X s skip) := by
 have hl := got_len X s skip hX
 rw [if_pos hth] at hl
 refine .inr ⟨_, _, by rw [hl], ?_⟩
 unfold got
 rw [if_pos hth]
 exact drop_cells X g (10 + skip) (cntOf X - skip) t fr w h

set_option maxHeartbeats 1000000 in
set_option maxRecDepth 100000 in
theorem find_ok {w : World} {q p : Nat} {gp fp : List Nat} {R : Rg} {D : Dv} (h : RawIs w q p gp R (.slice none 0 0)) (hh : R.held = []) (hD : DevC w p fp D) (hdis : ∀ k ∈ gp, k ∉ fp) (live : D.dead = false) (hn : R.fr + R.n ≤ D.L.length) (hm : D.W.length < 1000000)
 (b1 : 2 ≤ R.n) (b2 : R.n ≤ 8192) (b3 : R.fr ≤ 8192) (b4 : R.start ≤ 1099511627776) :
 Calls Tryz.prog 106 #[.pointer (some ⟨q, 0, none⟩)] w fun e w' => e = .returned (.int .i64 0) ∧ ∃ gp' hv, RawIs w' q p gp' { R with held := scan (fun s => D.newest (R.place s)) (R.start / 118) R.n (R.start % 118), fin := R.start + (scan (fun s => D.newest (R.place s)) (R.start / 118) R.n (R.start % 118)).length } hv ∧
  DevC w' p fp D ∧ Off (gp ++ fp) w w' ∧ (∀ k ∈ gp', k ∈ gp ∨ w.heap.size ≤ k) := by
 have HRD : Hid (∀ s, ((fun s => D.newest (R.place s)) s).length = 128) := fun s => length_newest D hD.wf _ (by
  show R.fr + s % R.n < _
  have := Nat.mod_lt s (show R.n > 0 by omega)
  omega)
 have HFP := hide hD.lim
 obtain ⟨rd, hrd⟩ : ∃ rd : Nat → List UInt8, (fun s => D.newest (R.place s)) = rd := ⟨_, rfl⟩
 rw [hrd] at HRD ⊢
 have HRE : Hid (∀ s, D.newest (R.fr + s % R.n) = rd s) := fun s => by rw [← hrd]; rfl
 clear hrd
 obtain ⟨M, hM⟩ : ∃ M, scan rd (R.start / 118) R.n (R.start % 118) = M := ⟨_, rfl⟩
 rw [hM]
 have hMl : M.length ≤ 966656 := by have := scan_le rd HRD.out R.n (R.start / 118) (R.start % 118); rw [hM] at this; omega
 have k3 := h.c3
 obtain ⟨F, hF⟩ : ∃ F, R.start / 118 = F := ⟨_, rfl⟩
 obtain ⟨K, hK⟩ : ∃ K, R.start % 118 = K := ⟨_, rfl⟩
 have hq1 : (R.start : Int) / 118 = (F : Int) := by omega
 have hq2 : (R.start : Int) % 118 = (K : Int) := by omega
 rw [hF, hK] at hM
 have hF1 : F < 100000000000 := by omega
 have hK1 : K < 118 := by omega
 have HRAW := hide h
 have HM := hide hM
 clear h hF hK hM
 go_enter Tryz.func106, Tryz.ntmps106
 go_wp2
 go_quiet (fail)
 go_wp2
 go_loopw [4, 5] (fun sk i wr => ∃ (j s skip : Nat) (gq : List Nat) (H : List UInt8) (hv : Value), s = F + j ∧ j ≤ R.n ∧ skip < 118 ∧ sk = .int .i64 skip ∧ i = .int .i64 s ∧ RawIs wr q p gq { R with held := H } hv ∧ DevC wr p fp D ∧ Off (gp ++ fp) w wr ∧ (∀ k ∈ gq, k ∈ gp ∨ w.heap.size ≤ k) ∧ H.length ≤ j * 118 ∧ H ++ scan rd s (R.n - j) skip = M) (fun _ i _ => F + R.n + 1 - (intOf i).toNat)
 case atStart => exact ⟨0, F, K, gp, [], .slice none 0 0, rfl, by omega, hK1, by rw [hq2], rfl, by rw [← hh]; exact HRAW.out.drewN _, hD.drewN _, (Off.refl _ _).drewN _, fun k hk => .inl hk, by simp, HM.out⟩
 case round =>
  clear hD k3
  obtain ⟨j, s, skip, gq, H, hv, hsj, hj, hsk, rfl, rfl, hR, hD, hO, hG, hHl, hHM⟩ := hrel
  have hsb : s < 4611686018427387904 := by omega
  have hdis2 : ∀ k ∈ gq, k ∉ fp := fun k hk hm => by
   rcases hG k hk with h1 | h1
   · exact hdis k h1 hm
   · have := HFP.out k hm; omega
  have k2 := hR.c2
  have k0 := hR.c0
  have HR := hide hR
  have HD := hide hD
  have HO := hide hO
  have HG := hide hG
  have HHM := hide hHM
  have HDI := hide hdis2
  have HSJ := hide hsj
  have hsF : (s : Int) < (F : Int) + (R.n : Int) ↔ j < R.n := by omega
  clear hR hD hO hG hHM hdis2 hsj
  obtain ⟨ho, hc, hhv⟩ := HR.out.held.len
  have HV := hide hhv
  clear hhv
  have HT : Hid (∀ m, Calls Tryz.prog 56 #[.pointer (some ⟨q, 0, none⟩)] (wr.drewN m) fun e w' => e = .returned (.int .i64 ((R.start + H.length : Nat) : Int)) ∧ ∃ m2, w' = (wr.drewN m).drewN m2) := fun m => by
   have h3 := HR.out.c3
   have h5 := HR.out.c5
   rw [HV.out] at h5
   exact tail_raw (w := wr.drewN m) h3 h5 (by show R.start ≤ _; omega) (by show H.length ≤ _; have := hj; omega)
  by_cases hlt : j < R.n
  · have hlt2 : (s : Int) < (F : Int) + (R.n : Int) := hsF.2 hlt
    clear hsF
    have HP := hide (fun m => place_raw (w := wr.drewN m) s hsb HR.out.c1 HR.out.c2 b1 b2 b3)
    have hpl : R.fr + s % R.n < D.L.length := by
     have := Nat.mod_lt s (show R.n > 0 by omega)
     omega
    have HRDC := hide (fun m => read_c (w := wr.drewN m) (R.fr + s % R.n) (HD.out.drewN m) live hpl hm)
    rw [HRE.out s] at HRDC
    have HK0 : Hid (∀ m w2, Off fp (wr.drewN m) w2 → RawIs w2 q p gq { R with held := H } hv) := fun m w2 ho => (HR.out.drewN m).apart ho HDI.out
    have hXl := HRD.out s
    have HE : Hid (H ++ (if (got (rd s) s skip).length < 118 - skip then got (rd s) s skip else got (rd s) s skip ++ scan rd (s + 1) (R.n - (j + 1)) 0) = M) := by
     have := HHM.out
     rw [show R.n - j = (R.n - (j + 1)) + 1 by omega, scan] at this
     exact this
    have hgl := got_len (rd s) s skip hXl
    clear HHM
    generalize rd s = X at *
    go_wp2
    go_region_held (fun w' => w'.cell? ⟨q, 0, none⟩ = some (.pointer (some ⟨p, 0, none⟩))) (simp [*])
     (first
       | (go_at_call 131; refine (HP.out 1).mono ?_; rintro e w1 ⟨rfl, m1, rfl⟩)
       | (go_at_call 18; refine (HRDC.out _).mono ?_; rintro e w2 ⟨g, rfl, hg1, hg2, hD2, hO2⟩; have hR2 := HK0.out _ w2 hO2; have k02 := hR2.c0))
    have HR2 := hide hR2
    have HG2 := hide hg2
    have HD2 := hide hD2
    have hgs : wr.heap.size ≤ g := hg1
    have HO2 : Hid (Off (gp ++ fp) w w2) := HO.out.trans (fp' := fp) ⟨hO2.os, hO2.tape, hO2.output, hO2.size, hO2.block⟩ (fun i hi => .inl (List.mem_append_right _ hi))
    have hsz2 : w.heap.size ≤ w2.heap.size := HO2.out.size
    have HB := hide (bytesOf_any g s skip X 5 (0, 0) w2 hg2 hXl hsb hsk)
    have hhv := HV.out
    have k52 := hR2.c5
    rw [hhv] at k52
    clear hR2 hg2 hD2 hO2 hg1 HP HRDC HK0 HR HD HO k02 k0 k2 HT hhv
    by_cases hth : isThere X s skip
    · rw [if_pos hth] at HB hgl
      have HX := hide (got_sl X g s skip 5 (0, 0) w2 HG2.out hXl hth)
      have hc1 := hth.2.2.1
      have hc2 := hth.2.2.2
      clear hth
      obtain ⟨c, hc⟩ : ∃ c, cntOf X - skip = c := ⟨_, rfl⟩
      have hcf : c < 118 - skip ↔ cntOf X < 118 := by omega
      rw [hc] at HB HX hgl
      have hcl : c ≤ 118 := by omega
      have HC := hide hc
      clear hc hc1 hc2
      by_cases hfull : c < 118 - skip
      · have HM2 : Hid (H ++ got X s skip = M) := by have := HE.out; rw [hgl, if_pos hfull] at this; exact this
        have hcmp : (c : Int) < 118 - (skip : Int) := by omega
        have HGL := hide hgl
        have HB2 : Hid (H.length + (got X s skip).length ≤ 100000000) := by show _ ≤ _; rw [hgl]; omega
        clear hgl
        have HHH : Hid (∀ m, Held (w2.drewN m) (.slice ho H.length hc) H) := fun m => by
         have := (HR2.out.drewN m).held
         rw [HV.out] at this
         exact this
        have HQ : Hid (∀ m v' w6, (w2.drewN m).grownBy w6 (Value.slice ho H.length hc).ownBlock → Held w6 v' (H ++ got X s skip) → (∀ k, v'.ownBlock = some k → (Value.slice ho H.length hc).ownBlock = some k ∨ (w2.drewN m).heap.size ≤ k) → w6.cell? ⟨q, 5, none⟩ = some (.slice ho H.length hc) ∧ w6.frozen? ⟨q, 5, none⟩ = false ∧ RawIs (w6.setCell ⟨q, 5, none⟩ v') q p (gq ++ v'.ownBlock.toList) { R with held := H ++ got X s skip } v' ∧ Off gq w2 (w6.setCell ⟨q, 5, none⟩ v') ∧ ∀ k ∈ gq ++ v'.ownBlock.toList, k ∈ gq ∨ w2.heap.size ≤ k) := fun m v' w6 hg hh hf => by
         rw [← HV.out] at hg hf
         have hb := hg.block q HR2.out.lt (fun e => HR2.out.ne e.symm)
         obtain ⟨r1, r2, r3⟩ := (HR2.out.drewN m).appended hh hg hf
         refine ⟨(World.cell?_of_block (a := ⟨q, 5, none⟩) hb).trans ?_, (World.frozen?_of_block (a := ⟨q, 5, none⟩) hb).trans (HR2.out.fz 5), r1, ⟨r2.os, r2.tape, r2.output, r2.size, r2.block⟩, r3⟩
         have := HR2.out.c5
         rw [HV.out] at this
         exact this
        obtain ⟨n6, hn6⟩ : ∃ n6, (H ++ got X s skip).length = n6 := ⟨_, rfl⟩
        have HN6 := hide hn6
        have hsb2 : s < 200000000000 := by have := HSJ.out; omega
        clear hlt2 hsb hn6
        have hn6b : n6 ≤ 966656 := by have := HN6.out; rw [HM2.out] at this; omega
        have HT7 : Hid (∀ (W : World) (gx : List Nat) (a6 : Option Addr) (c6 : Nat), RawIs W q p gx { R with held := H ++ got X s skip } (.slice a6 n6 c6) → Calls Tryz.prog 56 #[.pointer (some ⟨q, 0, none⟩)] W fun e w' => e = .returned (.int .i64 ((R.start + n6 : Nat) : Int)) ∧ ∃ m2, w' = W.drewN m2) := fun W gx a6 c6 h => tail_raw h.c3 h.c5 (by show R.start ≤ _; omega) (by omega)
        go_wp2_with (first
         | (go_at_call 132; refine HB.out.mono ?_; rintro e w3 ⟨rfl, m3, rfl⟩)
         | (refine wpList_append_held rfl (.tmp 52) (.tmp 53) rfl _ _ H (got X s skip) rfl rfl (HHH.out _) HX.out HB2.out ?_; intro v6 w6 hh6 hg6 hfr6; obtain ⟨k56, f56, hR7, hO7, hF7⟩ := HQ.out _ v6 w6 hg6 hh6 hfr6; obtain ⟨a6, c6, hv6⟩ := hh6.len; rw [HN6.out] at hv6; have HR7 := hide hR7; have HO7 := hide hO7; have HF7 := hide hF7; clear hh6 hg6 hfr6 hR7 hO7 hF7; subst hv6; have k47 := HR7.out.c4; have f47 := HR7.out.fz 4)
         | (go_at_call 56; refine (HT7.out _ _ a6 c6 HR7.out).mono ?_; rintro e w8 ⟨rfl, m8, rfl⟩))
        go_ret
        have hR8 := (HR7.out.drewN m8).ended (R.start + n6)
        have e8 : ((R.start + n6 : Nat) : Int) = (R.start : Int) + (n6 : Int) := by omega
        have e9 : n6 = M.length := by have := HN6.out; rw [HM2.out] at this; exact this.symm
        rw [e8] at hR8
        have hO9 : Off gq w2 (((w6.setCell ⟨q, 5, none⟩ (.slice a6 n6 c6)).drewN m8).setCell ⟨q, 4, none⟩ (.int .i64 ((R.start : Int) + (n6 : Int)))) := (HO7.out.drewN m8).setCell _ _ (.inl HR2.out.inQ)
        refine ⟨rfl, gq ++ (Value.slice a6 n6 c6).ownBlock.toList, .slice a6 n6 c6, ?_, HD2.out.apart hO9 (fun k hk hm => HDI.out k hm hk), HO2.out.trans hO9 (fun i hi => ?_), fun k hk => ?_⟩
        rotate_left
        · rcases HG.out i hi with h1 | h1
          · exact .inl (List.mem_append_left _ h1)
          · exact .inr h1
        · rcases HF7.out k hk with h1 | h1
          · exact HG.out k h1
          · exact .inr (Nat.le_trans hsz2 h1)
        · have := hR8
          simp only [HM2.out] at this
          rw [e9] at this ⊢
          exact this
      · have HM2 : Hid ((H ++ got X s skip) ++ scan rd (s + 1) (R.n - (j + 1)) 0 = M) := by have := HE.out; rw [hgl, if_neg hfull, ← List.append_assoc] at this; exact this
        have hcmp : decide ((c : Int) < 118 - (skip : Int)) = false := by simp; omega
        have HGL := hide hgl
        have HB2 : Hid (H.length + (got X s skip).length ≤ 100000000) := by show _ ≤ _; rw [hgl]; omega
        clear hgl
        have HHH : Hid (∀ m, Held (w2.drewN m) (.slice ho H.length hc) H) := fun m => by
         have := (HR2.out.drewN m).held
         rw [HV.out] at this
         exact this
        have HQ : Hid (∀ m v' w6, (w2.drewN m).grownBy w6 (Value.slice ho H.length hc).ownBlock → Held w6 v' (H ++ got X s skip) → (∀ k, v'.ownBlock = some k → (Value.slice ho H.length hc).ownBlock = some k ∨ (w2.drewN m).heap.size ≤ k) → w6.cell? ⟨q, 5, none⟩ = some (.slice ho H.length hc) ∧ w6.frozen? ⟨q, 5, none⟩ = false ∧ RawIs (w6.setCell ⟨q, 5, none⟩ v') q p (gq ++ v'.ownBlock.toList) { R with held := H ++ got X s skip } v' ∧ Off gq w2 (w6.setCell ⟨q, 5, none⟩ v') ∧ ∀ k ∈ gq ++ v'.ownBlock.toList, k ∈ gq ∨ w2.heap.size ≤ k) := fun m v' w6 hg hh hf => by
         rw [← HV.out] at hg hf
         have hb := hg.block q HR2.out.lt (fun e => HR2.out.ne e.symm)
         obtain ⟨r1, r2, r3⟩ := (HR2.out.drewN m).appended hh hg hf
         refine ⟨(World.cell?_of_block (a := ⟨q, 5, none⟩) hb).trans ?_, (World.frozen?_of_block (a := ⟨q, 5, none⟩) hb).trans (HR2.out.fz 5), r1, ⟨r2.os, r2.tape, r2.output, r2.size, r2.block⟩, r3⟩
         have := HR2.out.c5
         rw [HV.out] at this
         exact this
        obtain ⟨n6, hn6⟩ : ∃ n6, (H ++ got X s skip).length = n6 := ⟨_, rfl⟩
        have HN6 := hide hn6
        have hsb2 : s < 200000000000 := by have := HSJ.out; omega
        clear hlt2 hsb hn6
        go_wp2_with (first
         | (go_at_call 132; refine HB.out.mono ?_; rintro e w3 ⟨rfl, m3, rfl⟩)
         | (refine wpList_append_held rfl (.tmp 52) (.tmp 53) rfl _ _ H (got X s skip) rfl rfl (HHH.out _) HX.out HB2.out ?_; intro v6 w6 hh6 hg6 hfr6; obtain ⟨k56, f56, hR7, hO7, hF7⟩ := HQ.out _ v6 w6 hg6 hh6 hfr6; obtain ⟨a6, c6, hv6⟩ := hh6.len; rw [HN6.out] at hv6; have HR7 := hide hR7; have HO7 := hide hO7; have HF7 := hide hF7; clear hh6 hg6 hfr6 hR7 hO7 hF7; subst hv6; have k47 := HR7.out.c4; have f47 := HR7.out.fz 4))
        have hF1j : s + 1 = F + (j + 1) := by have := HSJ.out; omega
        have hM3 : H ++ got X s skip ++ scan rd (F + (j + 1)) (R.n - (j + 1)) 0 = M := by rw [← hF1j]; exact HM2.out
        refine ⟨⟨u2, .int .i64 0, .int .i64 ((s : Int) + 1), ⟨j + 1, by omega, 0, by omega, rfl, ?_, gq ++ (Value.slice a6 n6 c6).ownBlock.toList, H ++ got X s skip, ⟨.slice a6 n6 c6, HR7.out⟩, HD2.out.apart HO7.out (fun k hk hm => HDI.out k hm hk), HO2.out.trans HO7.out (fun i hi => ?_), fun k hk => ?_, ?_, hM3⟩, rfl, rfl, ?_⟩, ?_⟩
        · congr 1; omega
        · rcases HG.out i hi with h1 | h1
          · exact .inl (List.mem_append_left _ h1)
          · exact .inr h1
        · rcases HF7.out k hk with h1 | h1
          · exact HG.out k h1
          · exact .inr (Nat.le_trans hsz2 h1)
        · rw [List.length_append]
          have := HGL.out
          omega
        · first | rfl | (congr 1; simp only [wrap64]; omega)
        · simp [intOf]; have := HSJ.out; omega
    · rw [if_neg hth] at HB hgl
      have HX : Hid (Sl w2 (.slice none 0 0) (got X s skip)) := .inl ⟨0, rfl, List.eq_nil_of_length_eq_zero hgl⟩
      clear hth
      have HM2 : Hid (H ++ got X s skip = M) := by have := HE.out; rw [hgl, if_pos (by omega)] at this; exact this
      have hcmp : (0 : Int) < 118 - (skip : Int) := by omega
      have HGL := hide hgl
      have HB2 : Hid (H.length + (got X s skip).length ≤ 100000000) := by show _ ≤ _; rw [hgl]; omega
      clear hgl
      have HHH : Hid (∀ m, Held (w2.drewN m) (.slice ho H.length hc) H) := fun m => by
       have := (HR2.out.drewN m).held
       rw [HV.out] at this
       exact this
      have HQ : Hid (∀ m v' w6, (w2.drewN m).grownBy w6 (Value.slice ho H.length hc).ownBlock → Held w6 v' (H ++ got X s skip) → (∀ k, v'.ownBlock = some k → (Value.slice ho H.length hc).ownBlock = some k ∨ (w2.drewN m).heap.size ≤ k) → w6.cell? ⟨q, 5, none⟩ = some (.slice ho H.length hc) ∧ w6.frozen? ⟨q, 5, none⟩ = false ∧ RawIs (w6.setCell ⟨q, 5, none⟩ v') q p (gq ++ v'.ownBlock.toList) { R with held := H ++ got X s skip } v' ∧ Off gq w2 (w6.setCell ⟨q, 5, none⟩ v') ∧ ∀ k ∈ gq ++ v'.ownBlock.toList, k ∈ gq ∨ w2.heap.size ≤ k) := fun m v' w6 hg hh hf => by
       rw [← HV.out] at hg hf
       have hb := hg.block q HR2.out.lt (fun e => HR2.out.ne e.symm)
       obtain ⟨r1, r2, r3⟩ := (HR2.out.drewN m).appended hh hg hf
       refine ⟨(World.cell?_of_block (a := ⟨q, 5, none⟩) hb).trans ?_, (World.frozen?_of_block (a := ⟨q, 5, none⟩) hb).trans (HR2.out.fz 5), r1, ⟨r2.os, r2.tape, r2.output, r2.size, r2.block⟩, r3⟩
       have := HR2.out.c5
       rw [HV.out] at this
       exact this
      obtain ⟨n6, hn6⟩ : ∃ n6, (H ++ got X s skip).length = n6 := ⟨_, rfl⟩
      have HN6 := hide hn6
      have hsb2 : s < 200000000000 := by have := HSJ.out; omega
      clear hlt2 hsb hn6
      have hn6b : n6 ≤ 966656 := by have := HN6.out; rw [HM2.out] at this; omega
      have HT7 : Hid (∀ (W : World) (gx : List Nat) (a6 : Option Addr) (c6 : Nat), RawIs W q p gx { R with held := H ++ got X s skip } (.slice a6 n6 c6) → Calls Tryz.prog 56 #[.pointer (some ⟨q, 0, none⟩)] W fun e w' => e = .returned (.int .i64 ((R.start + n6 : Nat) : Int)) ∧ ∃ m2, w' = W.drewN m2) := fun W gx a6 c6 h => tail_raw h.c3 h.c5 (by show R.start ≤ _; omega) (by omega)
      go_wp2_with (first
       | (go_at_call 132; refine HB.out.mono ?_; rintro e w3 ⟨rfl, m3, rfl⟩)
       | (refine wpList_append_held rfl (.tmp 52) (.tmp 53) rfl _ _ H (got X s skip) rfl rfl (HHH.out _) HX.out HB2.out ?_; intro v6 w6 hh6 hg6 hfr6; obtain ⟨k56, f56, hR7, hO7, hF7⟩ := HQ.out _ v6 w6 hg6 hh6 hfr6; obtain ⟨a6, c6, hv6⟩ := hh6.len; rw [HN6.out] at hv6; have HR7 := hide hR7; have HO7 := hide hO7; have HF7 := hide hF7; clear hh6 hg6 hfr6 hR7 hO7 hF7; subst hv6; have k47 := HR7.out.c4; have f47 := HR7.out.fz 4)
       | (go_at_call 56; refine (HT7.out _ _ a6 c6 HR7.out).mono ?_; rintro e w8 ⟨rfl, m8, rfl⟩))
      go_ret
      have hR8 := (HR7.out.drewN m8).ended (R.start + n6)
      have e8 : ((R.start + n6 : Nat) : Int) = (R.start : Int) + (n6 : Int) := by omega
      have e9 : n6 = M.length := by have := HN6.out; rw [HM2.out] at this; exact this.symm
      rw [e8] at hR8
      have hO9 : Off gq w2 (((w6.setCell ⟨q, 5, none⟩ (.slice a6 n6 c6)).drewN m8).setCell ⟨q, 4, none⟩ (.int .i64 ((R.start : Int) + (n6 : Int)))) := (HO7.out.drewN m8).setCell _ _ (.inl HR2.out.inQ)
      refine ⟨rfl, gq ++ (Value.slice a6 n6 c6).ownBlock.toList, .slice a6 n6 c6, ?_, HD2.out.apart hO9 (fun k hk hm => HDI.out k hm hk), HO2.out.trans hO9 (fun i hi => ?_), fun k hk => ?_⟩
      rotate_left
      · rcases HG.out i hi with h1 | h1
        · exact .inl (List.mem_append_left _ h1)
        · exact .inr h1
      · rcases HF7.out k hk with h1 | h1
        · exact HG.out k h1
        · exact .inr (Nat.le_trans hsz2 h1)
      · have := hR8
        simp only [HM2.out] at this
        rw [e9] at this ⊢
        exact this
  · have hjn : j = R.n := by omega
    subst hjn
    have hnl : decide ((s : Int) < (F : Int) + (R.n : Int)) = false := by simp; omega
    have HE : Hid (H = M) := by have := HHM.out; rw [Nat.sub_self, scan, List.append_nil] at this; exact this
    clear HHM
    have k4 := HR.out.c4
    have f4 := HR.out.fz 4
    go_wp2_with (first | (go_at_call 56; refine (HT.out 0).mono ?_; rintro e w' ⟨rfl, m6, rfl⟩))
    go_ret
    have hR8 := (HR.out.drewN m6).ended (R.start + H.length)
    have e8 : ((R.start + H.length : Nat) : Int) = (R.start : Int) + (H.length : Int) := by omega
    rw [e8] at hR8
    have hO9 : Off gq wr ((wr.drewN m6).setCell ⟨q, 4, none⟩ (.int .i64 ((R.start : Int) + (H.length : Int)))) := ((Off.refl gq wr).drewN m6).setCell _ _ (.inl HR.out.inQ)
    refine ⟨rfl, gq, hv, ?_, HD.out.apart hO9 (fun k hk hm => HDI.out k hm hk), HO.out.trans hO9 (fun i hi => ?_), HG.out⟩
    rotate_left
    · rcases HG.out i hi with h1 | h1
      · exact .inl (List.mem_append_left _ h1)
      · exact .inr h1
    · have := hR8
      rw [HE.out] at this ⊢
      exact this
end Go.Proofs.YteeembildppgmaaGreat
namespace Go.Proofs.YteeembildppgmaaGreat
open Go.RowKit
set_option linter.unusedVariables false
set_option linter.unusedSimpArgs false
def found (D : Dv) (fr n start : Nat) : List UInt8 := scan (fun s => D.newest (fr + s % n)) (start / 118) n (start % 118)
def Rg.opened (D : Dv) (fr n start : Nat) : Rg := ⟨fr, n, start, start + (found D fr n start).length, found D fr n start, false⟩
theorem found_le (D : Dv) (hD : D.wf) (fr n start : Nat) (h2 : 2 ≤ n) (hn : fr + n ≤ D.L.length) : (found D fr n start).length ≤ n * 118 :=
 scan_le _ (fun s => length_newest D hD _ (by have := Nat.mod_lt s (show n > 0 by omega); omega)) _ _ _
theorem Rg.opened_wf (D : Dv) (hD : D.wf) (fr n start : Nat) (h2 : 2 ≤ n) (h8 : n ≤ 8192) (hn : fr + n ≤ D.L.length) (hs : start ≤ 1099511627776) : (Rg.opened D fr n start).wf := by
 have := found_le D hD fr n start h2 hn
 have := hD.max
 refine ⟨h2, h8, by show fr ≤ _; omega, by show start ≤ _; omega, by show (found D fr n start).length ≤ _; omega, by show start ≤ start + _; omega, Nat.le_refl _⟩

set_option maxHeartbeats 1000000 in
set_option maxRecDepth 100000 in
theorem open_ok {w : World} {p : Nat} {fp : List Nat} {D : Dv} (fr n start : Nat) (hD : DevC w p fp D) (live : D.dead = false) (hn : fr + n ≤ D.L.length) (hm : D.W.length < 1000000) (h2 : 2 ≤ n) (h8 : n ≤ 8192) (hs : start ≤ 1099511627776) :
 Calls Tryz.prog 72 #[.pointer (some ⟨p, 0, none⟩), .int .i64 (fr : Int), .int .i64 (n : Int), .int .i64 (start : Int)] w fun e w' => ∃ gp, e = .returned (.tuple #[.pointer (some ⟨w.heap.size, 0, none⟩), .int .i64 0]) ∧
  RgAt w' w.heap.size p gp (Rg.opened D fr n start) ∧ DevC w' p fp D ∧ Off fp w w' ∧ (∀ k ∈ gp, w.heap.size ≤ k) ∧ (∀ k ∈ gp, k ∉ fp) := by
 have HS := hide (size_c hD)
 have hmax := hD.wf.max
 have HWF := hide (Rg.opened_wf D hD.wf fr n start h2 h8 hn hs)
 have HLIM := hide hD.lim
 have HNOT := hide hD.notin
 have HFI := hide (fun (W : World) (hb : Below w.heap.size w W) (hh : W.heap[w.heap.size]? = some (.cells #[.pointer (some ⟨p, 0, none⟩), .int .i64 fr, .int .i64 n, .int .i64 start, .int .i64 0, .slice none 0 0, .bool false] 136 (0, 0))) =>
  find_ok (w := W) (q := w.heap.size) (p := p) (gp := [w.heap.size]) (fp := fp) (R := ⟨fr, n, start, 0, [], false⟩) (D := D) ⟨hh, .inl ⟨rfl, rfl⟩, by simp [Value.ownBlock], by simp, fun k hk => by simp [Value.ownBlock] at hk, fun k hk => by simp at hk; rw [hk]; exact (Array.getElem?_eq_some_iff.1 hh).1⟩ rfl (hD.below hb)
   (fun k hk hm => by simp at hk; rw [hk] at hm; exact hD.notin hm) live hn hm h2 h8 (by show fr ≤ _; omega) hs)
 have d1 : decide ((n : Int) < 2) = false := by simp; omega
 have d2 : decide ((8192 : Int) < (n : Int)) = false := by simp; omega
 have d3 : decide ((fr : Int) < 0) = false := by simp
 have d4 : decide ((D.L.length : Int) - (n : Int) < (fr : Int)) = false := by simp; omega
 have d5 : decide ((start : Int) < 0) = false := by simp
 have d6 : decide ((1099511627776 : Int) < (start : Int)) = false := by simp; omega
 clear hD live hm
 go_enter Tryz.func72, Tryz.ntmps72
 go_wp2_with (first | (go_at_call 47; refine HS.out.mono ?_; rintro e w' ⟨rfl, hw⟩; have hw := hw.symm; subst hw))
 refine (HFI.out _ ((Below.refl _ _).alloc (Nat.le_refl _) _) (heap_alloc_new _ _)).mono ?_
 rintro e w3 ⟨rfl, gp3, hv3, hR3, hD3, hO3, hG3⟩
 have HR3 := hide hR3
 have HD3 := hide hD3
 have HO3 := hide hO3
 have HG3 := hide hG3
 clear hR3 hD3 hO3 hG3 HFI
 go_wp2
 go_ret2
 have hge : ∀ k ∈ gp3, w.heap.size ≤ k := fun k hk => by
  rcases HG3.out k hk with h1 | h1
  · simp at h1; omega
  · simp at h1; omega
 refine ⟨gp3, rfl, ⟨hv3, HR3.out.is HWF.out⟩, HD3.out, ?_, hge, fun k hk hm => ?_⟩
 · refine (((Off.refl fp w).alloc _)).trans HO3.out (fun i hi => ?_)
   rcases List.mem_append.1 hi with h1 | h1
   · simp at h1; exact .inr (by omega)
   · exact .inl h1
 · have := HLIM.out k hm
   have := hge k hk
   omega
end Go.Proofs.YteeembildppgmaaGreat
namespace Go.Proofs.YteeembildppgmaaGreat
open Go.RowKit
set_option linter.unusedVariables false
set_option linter.unusedSimpArgs false
theorem well_put1 {R : Rg} (hw : R.wf) {D : Dv} (h : D.well) (hn : R.fr + R.n ≤ D.L.length) (s : Nat) (hp : R.puts s) :
 R.put1 D s = (0, D.wrote (R.place s) (R.img s (D.newest (R.place s)))) ∧ (D.wrote (R.place s) (R.img s (D.newest (R.place s)))).well := by
 have hpl := Rg.place_lt hw D hn s
 refine ⟨?_, well_wrote h _ _ hpl (Rg.length_img hp (length_newest D h.wf _ hpl))⟩
 rw [Rg.live_put1 hw h.wf h.live hn s hp, if_neg (by have := h.fuse; omega)]
theorem well_putN {R : Rg} (hw : R.wf) (n0 : Nat) (hn : R.fr + R.n ≤ n0) : ∀ (k s : Nat) (D : Dv), D.well → D.L.length = n0 → (∀ t, s ≤ t → t < s + k → R.puts t) → (R.putN s k D).1 = 0 ∧ (R.putN s k D).2.well ∧ (R.putN s k D).2.L = D.L
 | 0, s, D, h, _, _ => ⟨rfl, h, rfl⟩
 | k + 1, s, D, h, hl, hp => by
   obtain ⟨e, hw2⟩ := well_put1 hw h (by rw [hl]; exact hn) s (hp s (by omega) (by omega))
   have e1 : R.putN s (k + 1) D = R.putN (s + 1) k (D.wrote (R.place s) (R.img s (D.newest (R.place s)))) := by
    show (if (R.put1 D s).1 ≠ 0 then R.put1 D s else R.putN (s + 1) k (R.put1 D s).2) = _
    rw [e, if_neg (by simp)]
   obtain ⟨r1, r2, r3⟩ := well_putN hw n0 hn k (s + 1) _ hw2 hl (fun t h1 h2 => hp t (by omega) (by omega))
   rw [e1]
   exact ⟨r1, r2, r3⟩
theorem well_layD {R : Rg} (hw : R.wf) {D : Dv} (h : D.well) (hn : R.fr + R.n ≤ D.L.length) (f l : Nat) (hfl : f ≤ l) (hp1 : R.start ≤ f * 118 + 117) (hp2 : l * 118 < R.tail) :
 (R.layD D f l).1 = 0 ∧ (R.layD D f l).2.well ∧ (R.layD D f l).2.L.length = D.L.length ∧ (R.layD D f l).2.W = [] := by
 obtain ⟨a1, a2, a3⟩ := well_putN hw D.L.length hn (l - f) (f + 1) D h rfl (fun t h1 h2 => ⟨by omega, by omega⟩)
 obtain ⟨E, hE⟩ : ∃ E, (R.putN (f + 1) (l - f) D).2 = E := ⟨_, rfl⟩
 rw [hE] at a2 a3
 have b0 : R.layD D f l = R.lay1 E f l := by unfold Rg.layD; rw [a1, if_neg (by simp), hE]
 have hpl : R.place (l + 1) < E.L.length := Rg.place_lt hw E (by rw [a3]; exact hn) (l + 1)
 have b1 : R.lay1 E f l = R.lay2 (E.wrote (R.place (l + 1)) (zerosN 128)) f := by
  unfold Rg.lay1
  rw [live_write E _ _ a2.live hpl (length_zerosN 128), if_neg (show ¬ E.fuse = 0 by have := a2.fuse; omega), if_neg (by simp)]
 have w1 := well_wrote a2 _ (zerosN 128) hpl (length_zerosN 128)
 obtain ⟨E1, hE1⟩ : ∃ E1, E.wrote (R.place (l + 1)) (zerosN 128) = E1 := ⟨_, rfl⟩
 have l1 : E1.L = D.L := by rw [← hE1]; exact a3
 rw [hE1] at b1 w1
 have b2 : R.lay2 E1 f = R.lay3 E1.synced f := by
  unfold Rg.lay2
  rw [live_sync E1 w1.live, if_neg (show ¬ E1.fuse = 0 by have := w1.fuse; omega), if_neg (by simp)]
 have w2 := well_synced w1
 have l2 : E1.synced.L.length = D.L.length := by
  show (laidOver _ _).length = _
  rw [length_laidOver, l1]
 obtain ⟨e3, w3⟩ := well_put1 hw w2 (by rw [l2]; exact hn) f ⟨hp1, by omega⟩
 have b3 : R.lay3 E1.synced f = (0, (E1.synced.wrote (R.place f) (R.img f (E1.synced.newest (R.place f)))).synced) := by
  unfold Rg.lay3
  rw [e3, if_neg (by simp), live_sync _ w3.live, if_neg (by have := w3.fuse; omega)]
 rw [b0, b1, b2, b3]
 refine ⟨rfl, well_synced w3, ?_, rfl⟩
 show (laidOver _ _).length = _
 rw [length_laidOver]
 exact l2
theorem well_flush {R : Rg} (hw : R.wf) {D : Dv} (h : D.well) (hn : R.fr + R.n ≤ D.L.length) (he : R.fin ≠ R.tail) :
 (R.flushD D).1 = 0 ∧ (R.flushD D).2.well ∧ (R.flushD D).2.L.length = D.L.length ∧ (R.flushD D).2.W = [] := by
 have h1 := hw.lo
 have h2 := hw.hi
 exact well_layD hw h hn _ _ (by omega) (by omega) (by omega)

theorem flush_well {w : World} {q p : Nat} {gp fp : List Nat} {R : Rg} {D : Dv} (h : RgAt w q p gp R) (hD : DevC w p fp D) (hdis : ∀ k ∈ gp, k ∉ fp) (hw : D.well) (hn : R.fr + R.n ≤ D.L.length) (hm : D.W = []) (hf : R.failed = false) :
 Calls Tryz.prog 68 #[.pointer (some ⟨q, 0, none⟩)] w fun e w' => e = .returned (.int .i64 0) ∧
  ∃ fp' D', RgAt w' q p gp { R with fin := R.tail } ∧ DevC w' p fp' D' ∧ D'.well ∧ D'.L.length = D.L.length ∧ D'.W = [] ∧ (D' = D ∨ D' = (R.flushD D).2) ∧ (R.fin ≠ R.tail → D' = (R.flushD D).2) ∧ (R.fin = R.tail → D' = D) ∧ Off (gp ++ fp) w w' ∧ (∀ k ∈ fp', k ∈ fp ∨ w.heap.size ≤ k) := by
 by_cases he : R.fin = R.tail
 · refine (flush_nothing h hf he).mono ?_
   rintro e w' ⟨rfl, m, rfl⟩
   have e1 : ({ R with fin := R.tail } : Rg) = R := by rw [← he]
   refine ⟨rfl, fp, D, by rw [e1]; exact h.drewN m, hD.drewN m, hw, rfl, hm, .inl rfl, fun hne => absurd he hne, fun _ => rfl, (Off.refl _ _).drewN m, fun k hk => .inl hk⟩
 · obtain ⟨a1, a2, a3, a4⟩ := well_flush h.wf hw hn he
   refine (flush_lays h hD hdis hw.live hn (by rw [hm]; simp) hf he).mono ?_
   rintro e w' ⟨rfl, fp', h1, h2, h3, h4⟩
   rw [a1] at h1 ⊢
   rw [if_pos rfl] at h1
   exact ⟨rfl, fp', _, h1, h2, a2, a3, a4, .inr rfl, fun _ => rfl, fun hx => absurd hx he, h3, h4⟩
theorem zeros_absent (s skip : Nat) : got zeros s skip = [] := by
 unfold got
 rw [if_neg]
 intro h
 have h1 := h.1
 have : beval (zeros.take 8) = 0 := by decide
 omega
theorem fresh_found (N fr n start : Nat) (h2 : 2 ≤ n) (hn : fr + n ≤ N) : found (Dv.fresh N) fr n start = [] := by
 unfold found
 obtain ⟨k, rfl⟩ : ∃ k, n = k + 1 := ⟨n - 1, by omega⟩
 unfold scan
 have hr : (Dv.fresh N).newest (fr + start / 118 % (k + 1)) = zeros := fresh_newest N _ (by have := Nat.mod_lt (start / 118) (show k + 1 > 0 by omega); omega)
 rw [hr, zeros_absent, if_pos (by have := Nat.mod_lt start (show 118 > 0 by omega); simp; omega)]
end Go.Proofs.YteeembildppgmaaGreat
namespace Go.Proofs.YteeembildppgmaaGreat
open Go.RowKit
set_option linter.unusedVariables false
set_option linter.unusedSimpArgs false
structure RDevB (w0 w : World) (p : Nat) (xs fp : List Nat) (D : Dv) : Prop where
 dev : DevC w p fp D
 f0 : ∀ k ∈ fp, w0.heap.size ≤ k
 xs : ∀ k ∈ xs, k < w.heap.size ∧ k ∉ fp
 below : Below w0.heap.size w0 w
structure BothIs (w0 w : World) (q p : Nat) (xs gp fp : List Nat) (R : Rg) (D : Dv) : Prop where
 rg : RgAt w q p gp R
 dv : RDevB w0 w p xs fp D
 dis : ∀ k ∈ gp, k ∉ fp
 g0 : ∀ k ∈ gp, w0.heap.size ≤ k
 gx : ∀ k ∈ xs, k ∉ gp
def Both (w0 w : World) (q p : Nat) (xs : List Nat) (R : Rg) (D : Dv) : Prop := ∃ gp fp, BothIs w0 w q p xs gp fp R D
def RDevX (w0 w : World) (p : Nat) (xs : List Nat) (D : Dv) : Prop := ∃ fp, RDevB w0 w p xs fp D
theorem rg_lim {w : World} {q p : Nat} {gp : List Nat} {R : Rg} (h : RgAt w q p gp R) : ∀ k ∈ gp, k < w.heap.size := let ⟨_, x⟩ := h; x.lim

section
variable {w0 w w' : World} {q p : Nat} {xs : List Nat} {R R' : Rg} {D D' : Dv}
theorem BothIs.step {gp fp gp' fp' : List Nat} (h : BothIs w0 w q p xs gp fp R D) (hO : Off (gp ++ fp) w w') (hR : RgAt w' q p gp' R') (hD : DevC w' p fp' D') (hG : ∀ k ∈ gp', k ∈ gp ∨ w.heap.size ≤ k) (hF : ∀ k ∈ fp', k ∈ fp ∨ w.heap.size ≤ k)
 (hd : ∀ k ∈ gp', k ∉ fp') : BothIs w0 w' q p xs gp' fp' R' D' ∧ Kept xs w w' := by
 have hsz := h.dv.below.size
 refine ⟨⟨hR, ⟨hD, fun k hk => ?_, fun k hk => ⟨Nat.lt_of_lt_of_le (h.dv.xs k hk).1 hO.size, fun hm => ?_⟩, ?_⟩, hd, fun k hk => ?_, fun k hk hm => ?_⟩, hO.size, fun k hk => ?_⟩
 · rcases hF k hk with h1 | h1
   · exact h.dv.f0 k h1
   · omega
 · rcases hF k hm with h1 | h1
   · exact (h.dv.xs k hk).2 h1
   · have := (h.dv.xs k hk).1; omega
 · exact h.dv.below.trans (hO.below hsz (fun k hk => by
    rcases List.mem_append.1 hk with h1 | h1
    · exact h.g0 k h1
    · exact h.dv.f0 k h1))
 · rcases hG k hk with h1 | h1
   · exact h.g0 k h1
   · omega
 · rcases hG k hm with h1 | h1
   · exact h.gx k hk h1
   · have := (h.dv.xs k hk).1; omega
 · exact hO.block k (h.dv.xs k hk).1 (fun hm => by
    rcases List.mem_append.1 hm with h1 | h1
    · exact h.gx k hk h1
    · exact (h.dv.xs k hk).2 h1)
theorem BothIs.belowW {gp fp : List Nat} (h : BothIs w0 w q p xs gp fp R D) (hb : Below w.heap.size w w') : BothIs w0 w' q p xs gp fp R D :=
 (h.step (Off.of_below hb _) (h.rg.below hb) (h.dv.dev.below hb) (fun k hk => .inl hk) (fun k hk => .inl hk) h.dis).1
theorem Both.belowW (h : Both w0 w q p xs R D) (hb : Below w.heap.size w w') : Both w0 w' q p xs R D := let ⟨_, _, x⟩ := h; ⟨_, _, x.belowW hb⟩
theorem Both.drewN (h : Both w0 w q p xs R D) (m : Nat) : Both w0 (w.drewN m) q p xs R D := h.belowW (below_drewN _ _ m)
theorem Both.below (h : Both w0 w q p xs R D) : Below w0.heap.size w0 w := let ⟨_, _, x⟩ := h; x.dv.below
theorem Both.wf (h : Both w0 w q p xs R D) : R.wf := let ⟨_, _, x⟩ := h; x.rg.wf
theorem Both.mind (h : Both w0 w q p xs R D) {ys : List Nat} (hy : ∀ k ∈ ys, k ∈ xs ∨ (k < w0.heap.size)) : Both w0 w q p ys R D := by
 obtain ⟨gp, fp, x⟩ := h
 refine ⟨gp, fp, x.rg, ⟨x.dv.dev, x.dv.f0, fun k hk => ?_, x.dv.below⟩, x.dis, x.g0, fun k hk hm => ?_⟩
 · rcases hy k hk with h1 | h1
   · exact x.dv.xs k h1
   · exact ⟨Nat.lt_of_lt_of_le h1 x.dv.below.size, fun hm => by have := x.dv.f0 k hm; omega⟩
 · rcases hy k hk with h1 | h1
   · exact x.gx k h1 hm
   · have := x.g0 k hm; omega
theorem Both.mindNew (h : Both w0 w q p xs R D) (hb : Below w.heap.size w w') {ys : List Nat} (hy : ∀ k ∈ ys, k ∈ xs ∨ (w.heap.size ≤ k ∧ k < w'.heap.size)) : Both w0 w' q p ys R D := by
 obtain ⟨gp, fp, x⟩ := h
 have y := x.belowW hb
 refine ⟨gp, fp, y.rg, ⟨y.dv.dev, y.dv.f0, fun k hk => ?_, y.dv.below⟩, y.dis, y.g0, fun k hk hm => ?_⟩
 · rcases hy k hk with h1 | h1
   · exact y.dv.xs k h1
   · exact ⟨h1.2, fun hm => by have := x.dv.dev.lim k hm; omega⟩
 · rcases hy k hk with h1 | h1
   · exact y.gx k h1 hm
   · have := rg_lim x.rg k hm; omega

theorem RDevX.below (h : RDevX w0 w p xs D) : Below w0.heap.size w0 w := let ⟨_, x⟩ := h; x.below
theorem RDevX.wf (h : RDevX w0 w p xs D) : D.wf := let ⟨_, x⟩ := h; x.dev.wf
theorem RDevX.belowW (h : RDevX w0 w p xs D) (hb : Below w.heap.size w w') : RDevX w0 w' p xs D := by
 obtain ⟨fp, x⟩ := h
 refine ⟨fp, x.dev.below hb, x.f0, fun k hk => ⟨Nat.lt_of_lt_of_le (x.xs k hk).1 hb.size, (x.xs k hk).2⟩, ?_⟩
 exact x.below.trans (hb.mono x.below.size)
theorem RDevB.step {fp fp' : List Nat} (x : RDevB w0 w p xs fp D) (hO : Off fp w w') (hD : DevC w' p fp' D') (hF : ∀ k ∈ fp', k ∈ fp ∨ w.heap.size ≤ k) : RDevX w0 w' p xs D' ∧ Kept xs w w' := by
 have hsz := x.below.size
 refine ⟨⟨fp', hD, fun k hk => ?_, fun k hk => ⟨Nat.lt_of_lt_of_le (x.xs k hk).1 hO.size, fun hm => ?_⟩, x.below.trans (hO.below hsz x.f0)⟩, hO.size, fun k hk => hO.block k (x.xs k hk).1 (x.xs k hk).2⟩
 · rcases hF k hk with h1 | h1
   · exact x.f0 k h1
   · omega
 · rcases hF k hm with h1 | h1
   · exact (x.xs k hk).2 h1
   · have := (x.xs k hk).1; omega
theorem RDevX.mind (h : RDevX w0 w p xs D) {ys : List Nat} (hy : ∀ k ∈ ys, k ∈ xs ∨ (k < w0.heap.size)) : RDevX w0 w p ys D := by
 obtain ⟨fp, x⟩ := h
 refine ⟨fp, x.dev, x.f0, fun k hk => ?_, x.below⟩
 rcases hy k hk with h1 | h1
 · exact x.xs k h1
 · exact ⟨Nat.lt_of_lt_of_le h1 x.below.size, fun hm => by have := x.f0 k hm; omega⟩
end
end Go.Proofs.YteeembildppgmaaGreat
