/- A part of it: RLay RFlush. -/
import Derived.Test.YteeembildppgmaaGreatM7
namespace Go.Proofs.YteeembildppgmaaGreat
open Go.RowKit
set_option linter.unusedVariables false
set_option linter.unusedSimpArgs false
theorem wrote_W (D : Dv) (i : Nat) (bs : List UInt8) : (D.wrote i bs).W = D.W ++ [(i, bs)] := rfl

def Rg.put1 (R : Rg) (D : Dv) (s : Nat) : Int × Dv := D.write (R.place s : Nat) (R.img s (D.newest (R.place s)))
def Rg.putN (R : Rg) : Nat → Nat → Dv → Int × Dv
 | _, 0, D => (0, D)
 | s, k + 1, D => if (R.put1 D s).1 ≠ 0 then R.put1 D s else R.putN (s + 1) k (R.put1 D s).2
def Rg.lay3 (R : Rg) (D : Dv) (f : Nat) : Int × Dv := if (R.put1 D f).1 ≠ 0 then R.put1 D f else (R.put1 D f).2.sync
def Rg.lay2 (R : Rg) (D : Dv) (f : Nat) : Int × Dv := if D.sync.1 ≠ 0 then D.sync else R.lay3 D.sync.2 f
def Rg.lay1 (R : Rg) (D : Dv) (f l : Nat) : Int × Dv := if (D.write (R.place (l + 1) : Nat) (zerosN 128)).1 ≠ 0 then D.write (R.place (l + 1) : Nat) (zerosN 128) else R.lay2 (D.write (R.place (l + 1) : Nat) (zerosN 128)).2 f
def Rg.layD (R : Rg) (D : Dv) (f l : Nat) : Int × Dv := if (R.putN (f + 1) (l - f) D).1 ≠ 0 then R.putN (f + 1) (l - f) D else R.lay1 (R.putN (f + 1) (l - f) D).2 f l

theorem Rg.place_lt {R : Rg} (h : R.wf) (D : Dv) (hn : R.fr + R.n ≤ D.L.length) (s : Nat) : R.place s < D.L.length := by
 unfold Rg.place
 have := Nat.mod_lt s (show R.n > 0 by have := h.two; omega)
 omega
theorem Rg.live_put1 {R : Rg} (hw : R.wf) {D : Dv} (hD : D.wf) (hd : D.dead = false) (hn : R.fr + R.n ≤ D.L.length) (s : Nat) (hp : R.puts s) :
 R.put1 D s = if D.fuse = 0 then (50, { D with dead := true }) else (0, D.wrote (R.place s) (R.img s (D.newest (R.place s)))) :=
 live_write D _ _ hd (Rg.place_lt hw D hn s) (Rg.length_img hp (length_newest D hD _ (Rg.place_lt hw D hn s)))

structure LayAt (w wr : World) (q p : Nat) (gp fp fq : List Nat) (R : Rg) (E : Dv) : Prop where
 rg : RgAt wr q p gp R
 dev : DevC wr p fq E
 off : Off fp w wr
 fresh : ∀ k ∈ fq, k ∈ fp ∨ w.heap.size ≤ k
 dis : ∀ k ∈ gp, k ∉ fq
 gp : ∀ k ∈ gp, k < w.heap.size
theorem LayAt.next {w wr w' : World} {q p : Nat} {gp fp fq fq' : List Nat} {R : Rg} {E E' : Dv} (h : LayAt w wr q p gp fp fq R E) (hO : Off fq wr w') (hD : DevC w' p fq' E') (hF : ∀ k ∈ fq', k ∈ fq ∨ wr.heap.size ≤ k) : LayAt w w' q p gp fp fq' R E' := by
 have hF' : ∀ k ∈ fq', k ∈ fp ∨ w.heap.size ≤ k := fun k hk => by
  rcases hF k hk with h1 | h1
  · exact h.fresh k h1
  · exact .inr (Nat.le_trans h.off.size h1)
 refine ⟨h.rg.apart hO h.dis, hD, h.off.trans hO h.fresh, hF', fun k hk hm => ?_, h.gp⟩
 rcases hF k hm with h1 | h1
 · exact h.dis k hk h1
 · have := h.gp k hk
   have := h.off.size
   omega
theorem LayAt.below {w wr w' : World} {q p : Nat} {gp fp fq : List Nat} {R : Rg} {E : Dv} (h : LayAt w wr q p gp fp fq R E) (hb : Below wr.heap.size wr w') : LayAt w w' q p gp fp fq R E :=
 h.next (Off.of_below hb fq) (h.dev.below hb) (fun k hk => .inl hk)
theorem LayAt.c0 {w wr : World} {q p : Nat} {gp fp fq : List Nat} {R : Rg} {E : Dv} (h : LayAt w wr q p gp fp fq R E) : wr.cell? ⟨q, 0, none⟩ = some (.pointer (some ⟨p, 0, none⟩)) := by
 obtain ⟨_, x⟩ := h.rg
 exact x.c0
theorem below_same {w W : World} (h : W.heap = w.heap) (h1 : W.os = w.os) (h2 : W.tape = w.tape) (h3 : W.output = w.output) : Below w.heap.size w W :=
 ⟨h1, h2, h3, by rw [h]; exact Nat.le_refl _, fun k hk => by rw [h]⟩
theorem below_push {w W : World} {o : Obj} (h : W.heap = w.heap.push o) (h1 : W.os = w.os) (h2 : W.tape = w.tape) (h3 : W.output = w.output) : Below w.heap.size w W :=
 ⟨h1, h2, h3, by rw [h]; simp, fun k hk => by rw [h, Array.getElem?_push_lt hk, Array.getElem?_eq_getElem hk]⟩

set_option maxHeartbeats 1000000 in
set_option maxRecDepth 100000 in
theorem lay_ok {w : World} {q p : Nat} {gp fp : List Nat} {R : Rg} {D : Dv} (f l : Nat) (h : RgAt w q p gp R) (hD : DevC w p fp D) (hdis : ∀ k ∈ gp, k ∉ fp) (live : D.dead = false) (hn : R.fr + R.n ≤ D.L.length) (hm : D.W.length ≤ 100000)
 (hfl : f ≤ l) (hlf : l - f ≤ 100000) (hp1 : R.start ≤ f * 118 + 117) (hp2 : l * 118 < R.tail) :
 Calls Tryz.prog 101 #[.pointer (some ⟨q, 0, none⟩), .int .i64 (f : Int), .int .i64 (l : Int)] w fun e w' => e = .returned (.int .i64 (R.layD D f l).1) ∧
  ∃ fp', DevC w' p fp' (R.layD D f l).2 ∧ Off fp w w' ∧ ∀ k ∈ fp', k ∈ fp ∨ w.heap.size ≤ k := by
 have hl : l < 4000000000000 := by
  have := h.wf.start
  have := h.wf.held
  unfold Rg.tail at hp2
  omega
 have HAT := hide h
 have HDIS := hide hdis
 have HWF := hide h.wf
 have HN := hide hn
 have HGP : Hid (∀ k ∈ gp, k < w.heap.size) := by obtain ⟨_, x⟩ := h; exact x.lim
 have HS1 := hide hp1
 have HS2 := hide hp2
 obtain ⟨N, hNe⟩ : ∃ N, R.layD D f l = N := ⟨_, rfl⟩
 rw [hNe]
 have HNE := hide hNe
 clear hNe h hdis hn hp1 hp2
 go_enter Tryz.func101, Tryz.ntmps101
 go_wp2
 go_loopw [7] (fun i wr => ∃ (s : Nat) (fq : List Nat) (E : Dv), f + 1 ≤ s ∧ s ≤ l + 1 ∧ i = .int .i64 s ∧ DevC wr p fq E ∧ Off fp w wr ∧ (∀ k ∈ fq, k ∈ fp ∨ w.heap.size ≤ k) ∧ E.dead = false ∧ E.L.length = D.L.length ∧ E.W.length ≤ D.W.length + (s - (f + 1)) ∧ R.putN (f + 1) (l - f) D = R.putN s (l + 1 - s) E) (fun i _ => l + 2 - (intOf i).toNat)
 case atStart => exact ⟨f + 1, fp, D, by omega, by omega, by go_num, hD, Off.refl _ _, fun k hk => .inl hk, live, rfl, by omega, by rw [show l + 1 - (f + 1) = l - f by omega]⟩
 case round =>
  clear hD live
  obtain ⟨s, fq, E, hs1, hs2, rfl, hD, hO, hF, live, hEL, hEW, hPN⟩ := hrel
  have hat := HAT.out.apart hO (fun k hk hm => HDIS.out k hk hm)
  have hdis2 : ∀ k ∈ gp, k ∉ fq := fun k hk hm => by
   rcases hF k hm with h1 | h1
   · exact HDIS.out k hk h1
   · have := HGP.out k hk; omega
  have HPN := hide hPN
  have HF := hide hF
  have HO := hide hO
  clear hPN hF hO
  by_cases hlt : s ≤ l
  · have hput : R.puts s := ⟨by have := HS1.out; omega, by have := HS2.out; omega⟩
    have HPUT := hide (put_ok s hat hD hdis2 live (Rg.place_lt HWF.out E (by rw [hEL]; exact HN.out) s) (by omega) hput)
    have hE := Rg.live_put1 HWF.out hD.wf live (by rw [hEL]; exact HN.out) s hput
    have hE' : E.write (R.place s : Nat) (R.img s (E.newest (R.place s))) = R.put1 E s := rfl
    rw [hE', hE] at HPUT
    have HE := hide hE
    clear hE hE' hat hdis2 hput hD
    by_cases hfu : E.fuse = 0
    · rw [if_pos hfu] at HPUT HE
      have HR : Hid (N = (50, { E with dead := true })) := by
       have h1 := HPN.out
       rw [show l + 1 - s = (l - s) + 1 by omega, Rg.putN, HE.out, if_pos (by simp)] at h1
       have h2 := HNE.out
       unfold Rg.layD at h2
       rw [h1, if_pos (by simp)] at h2
       exact h2.symm
      clear HPN HE
      go_wp2_with (first | (go_at_call 130; refine HPUT.out.mono ?_; rintro e w4 ⟨rfl, fp4, hD4, hO4, hF4⟩))
      go_ret
      rw [HR.out]
      refine ⟨rfl, fp4, hD4, HO.out.trans hO4 (fun i hi => HF.out i hi), fun k hk => ?_⟩
      rcases hF4 k hk with h1 | h1
      · exact HF.out k h1
      · exact .inr (Nat.le_trans HO.out.size h1)
    · rw [if_neg hfu] at HPUT HE
      go_wp2_with (first | (go_at_call 130; refine HPUT.out.mono ?_; rintro e w4 ⟨rfl, fp4, hD4, hO4, hF4⟩))
      go_roundw
      case rel =>
       refine ⟨s + 1, fp4, E.wrote (R.place s) (R.img s (E.newest (R.place s))), by omega, by omega, by go_num, hD4, HO.out.trans hO4 (fun i hi => HF.out i hi), fun k hk => ?_, live, hEL, ?_, ?_⟩
       · rcases hF4 k hk with h1 | h1
         · exact HF.out k h1
         · exact .inr (Nat.le_trans HO.out.size h1)
       · rw [wrote_W, List.length_append, List.length_singleton]; omega
       · rw [HPN.out, show l + 1 - s = (l - s) + 1 by omega, Rg.putN, HE.out, if_neg (by simp), show l + 1 - (s + 1) = l - s by omega]
      case measure => simp [intOf]; omega
  · have hse : s = l + 1 := by omega
    subst hse
    have HR : Hid (N = R.lay1 E f l) := by
     have h1 := HPN.out
     rw [Nat.sub_self, Rg.putN] at h1
     have h2 := HNE.out
     unfold Rg.layD at h2
     rw [h1, if_neg (by simp)] at h2
     exact h2.symm
    clear HPN HNE
    go_wp2
    have hpl : R.place (l + 1) < E.L.length := Rg.place_lt HWF.out E (by rw [hEL]; exact HN.out) (l + 1)
    have HAT2 := hide hat
    have HD := hide hD
    have HDIS2 := hide hdis2
    obtain ⟨Z, hZ⟩ : ∃ Z : Array Value, (secCells (zerosN 128)).toArray = Z := ⟨_, rfl⟩
    have hmk := make0
    rw [hZ] at hmk
    have hq0 : wr.cell? ⟨q, 0, none⟩ = some (.pointer (some ⟨p, 0, none⟩)) := by obtain ⟨_, x⟩ := hat; exact x.c0
    have HPA : Hid (∀ (W : World), Below wr.heap.size wr W → Calls Tryz.prog 131 #[.pointer (some ⟨q, 0, none⟩), .int .i64 ((l : Int) + 1)] W fun e w' => e = .returned (.int .i64 (R.place (l + 1) : Nat)) ∧ ∃ m, w' = W.drewN m) := fun W hb => by
     have := rplace_any (l + 1) (by omega) (hat.below hb)
     rw [show ((l + 1 : Nat) : Int) = (l : Int) + 1 by omega] at this
     exact this
    have HP1 := hide (fun (W : World) h h1 h2 h3 => HPA.out W (below_same h h1 h2 h3))
    have HP2 := hide (fun (W : World) (h : W.heap = wr.heap.push (.cells Z 5)) h1 h2 h3 => HPA.out W (below_push h h1 h2 h3))
    have HWR := hide (fun (W : World) (h : W.heap = wr.heap.push (.cells Z 5)) (h1 : W.os = wr.os) (h2 : W.tape = wr.tape) (h3 : W.output = wr.output) => write_c (w := W) (R.place (l + 1) : Nat) wr.heap.size 128 (zerosN 128) 5 (0, 0) (hD.below (below_push h h1 h2 h3)) (by omega) (length_zerosN 128) (by rw [hZ, h]; simp) hD.notin)
    rw [live_write E _ _ live hpl (length_zerosN 128)] at HWR
    have HLA : Hid (LayAt w wr q p gp fp fq R E) := ⟨hat, hD, HO.out, HF.out, hdis2, HGP.out⟩
    have HK0 : Hid (∀ W w5 fp5 E5, W.heap = wr.heap.push (.cells Z 5) → W.os = wr.os → W.tape = wr.tape → W.output = wr.output → Off fq W w5 → DevC w5 p fp5 E5 → (∀ k ∈ fp5, k ∈ fq ∨ W.heap.size ≤ k) → LayAt w w5 q p gp fp fp5 R E5) := fun W w5 fp5 E5 h h1 h2 h3 ho hd hf =>
     (HLA.out.below (below_push h h1 h2 h3)).next ho hd hf
    have hwl : IntKind.i64.wrap ((l : Int) + 1) = (l : Int) + 1 := by rw [IntKind.wrap_i64]; omega
    have HLW := hide (live_write E _ (zerosN 128) live hpl (length_zerosN 128))
    have HLIVE := hide live
    have HEL := hide hEL
    have HEW := hide hEW
    clear hat hdis2 hD live hEL hEW hs1 hs2 hlt hZ
    by_cases hfu : E.fuse = 0
    · rw [if_pos hfu] at HWR HLW
      have HR2 : Hid (N = (50, { E with dead := true })) := by
       have := HR.out
       unfold Rg.lay1 at this
       rw [HLW.out, if_pos (by simp)] at this
       exact this
      clear HR HLW
      go_region_held (fun w' => w'.cell? ⟨q, 0, none⟩ = some (.pointer (some ⟨p, 0, none⟩))) (go_keep)
       (first
         | (go_at_call 131; refine (HP1.out _ (by rfl) (by rfl) (by rfl) (by rfl)).mono ?_; rintro e w1 ⟨rfl, m1, rfl⟩)
         | (go_at_call 131; refine (HP2.out _ (by rfl) (by rfl) (by rfl) (by rfl)).mono ?_; rintro e w1 ⟨rfl, m1, rfl⟩)
         | (go_at_call 113; refine (HWR.out _ (by rfl) (by rfl) (by rfl) (by rfl)).mono ?_; rintro e w5 ⟨rfl, fp5, hD5, hO5, hF5⟩; have hL5 := HK0.out _ w5 fp5 _ (by rfl) (by rfl) (by rfl) (by rfl) hO5 hD5 hF5; have k05 := hL5.c0; clear hO5 hD5 hF5))
      all_goals go_wp2
      all_goals go_ret
      all_goals
       rw [HR2.out]
       exact ⟨rfl, fp5, hL5.dev, hL5.off, hL5.fresh⟩
    · rw [if_neg hfu] at HWR HLW
      obtain ⟨E1, hE1⟩ : ∃ E1, E.wrote (R.place (l + 1)) (zerosN 128) = E1 := ⟨_, rfl⟩
      rw [hE1] at HWR HLW
      have HR2 : Hid (N = R.lay2 E1 f) := by
       have := HR.out
       unfold Rg.lay1 at this
       rw [HLW.out, if_neg (by simp)] at this
       exact this
      have hE1d : E1.dead = false := by rw [← hE1]; exact HLIVE.out
      have hE1L : E1.L.length = D.L.length := by rw [← hE1]; exact HEL.out
      have hE1W : E1.W.length ≤ 300000 := by
       rw [← hE1, wrote_W, List.length_append, List.length_singleton]
       have := HEW.out
       omega
      have HE1d := hide hE1d
      have HE1L := hide hE1L
      clear HR HLW hE1 hE1d hE1L
      go_region_held (fun w' => w'.cell? ⟨q, 0, none⟩ = some (.pointer (some ⟨p, 0, none⟩))) (go_keep)
       (first
         | (go_at_call 131; refine (HP1.out _ (by rfl) (by rfl) (by rfl) (by rfl)).mono ?_; rintro e w1 ⟨rfl, m1, rfl⟩)
         | (go_at_call 131; refine (HP2.out _ (by rfl) (by rfl) (by rfl) (by rfl)).mono ?_; rintro e w1 ⟨rfl, m1, rfl⟩)
         | (go_at_call 113; refine (HWR.out _ (by rfl) (by rfl) (by rfl) (by rfl)).mono ?_; rintro e w5 ⟨rfl, fp5, hD5, hO5, hF5⟩; have hL5 := HK0.out _ w5 fp5 _ (by rfl) (by rfl) (by rfl) (by rfl) hO5 hD5 hF5; have k05 := hL5.c0; clear hO5 hD5 hF5))
      all_goals
       have HL5 := hide hL5
       have HSY := hide (sync_c hL5.dev (by omega))
       clear hL5
       rw [live_sync E1 HE1d.out] at HSY
       by_cases hfu1 : E1.fuse = 0
       · rw [if_pos hfu1] at HSY
         have HR3 : Hid (N = (50, { E1 with dead := true })) := by
          have := HR2.out
          unfold Rg.lay2 at this
          rw [live_sync E1 HE1d.out, if_pos hfu1, if_pos (by simp)] at this
          exact this
         go_wp2_with (first | (go_at_call 114; refine HSY.out.mono ?_; rintro e w6 ⟨rfl, hD6, hO6⟩))
         go_ret
         rw [HR3.out]
         have hL6 := HL5.out.next hO6 hD6 (fun k hk => .inl hk)
         exact ⟨rfl, fp5, hL6.dev, hL6.off, hL6.fresh⟩
       · rw [if_neg hfu1] at HSY
         have HR3 : Hid (N = R.lay3 E1.synced f) := by
          have := HR2.out
          unfold Rg.lay2 at this
          rw [live_sync E1 HE1d.out, if_neg hfu1, if_neg (by simp)] at this
          exact this
         have hE2d : E1.synced.dead = false := HE1d.out
         have hE2L : E1.synced.L.length = D.L.length := by
          show (laidOver _ _).length = _
          rw [length_laidOver]; exact HE1L.out
         have hE2W : E1.synced.W.length = 0 := rfl
         generalize E1.synced = E2 at *
         have hputf : R.puts f := ⟨HS1.out, by have := HS2.out; omega⟩
         go_wp2_with fail
         refine HSY.out.mono ?_
         rintro e w6 ⟨rfl, hD6, hO6⟩
         have hL6 := HL5.out.next hO6 hD6 (fun k hk => .inl hk)
         have HPU := hide (put_ok f hL6.rg hL6.dev hL6.dis hE2d (Rg.place_lt HWF.out E2 (by rw [hE2L]; exact HN.out) f) (by omega) hputf)
         have hP := Rg.live_put1 HWF.out hL6.dev.wf hE2d (by rw [hE2L]; exact HN.out) f hputf
         have hP' : E2.write (R.place f : Nat) (R.img f (E2.newest (R.place f))) = R.put1 E2 f := rfl
         rw [hP', hP] at HPU
         have k06 := hL6.c0
         have HL6 := hide hL6
         clear hL6 hO6 hD6 HSY HL5 k05 hP'
         by_cases hfu2 : E2.fuse = 0
         · rw [if_pos hfu2] at HPU hP
           have HR4 : Hid (N = (50, { E2 with dead := true })) := by
            have := HR3.out
            unfold Rg.lay3 at this
            rw [hP, if_pos (by simp)] at this
            exact this
           clear hP
           go_wp2_with fail
           refine HPU.out.mono ?_
           rintro e w7 ⟨rfl, fp7, hD7, hO7, hF7⟩
           have HL7 := hide (HL6.out.next hO7 hD7 hF7)
           clear hD7 hO7 hF7 HL6
           go_wp2
           go_ret
           rw [HR4.out]
           exact ⟨rfl, fp7, HL7.out.dev, HL7.out.off, HL7.out.fresh⟩
         · rw [if_neg hfu2] at HPU hP
           obtain ⟨E3, hE3⟩ : ∃ E3, E2.wrote (R.place f) (R.img f (E2.newest (R.place f))) = E3 := ⟨_, rfl⟩
           have hE3W : E3.W.length < 1000000 := by rw [← hE3, wrote_W, List.length_append, List.length_singleton]; omega
           rw [hE3] at HPU hP
           have HR4 : Hid (N = E3.sync) := by
            have := HR3.out
            unfold Rg.lay3 at this
            rw [hP, if_neg (by simp)] at this
            exact this
           clear hP hE3
           go_wp2_with fail
           refine HPU.out.mono ?_
           rintro e w7 ⟨rfl, fp7, hD7, hO7, hF7⟩
           have HL7 := hide (HL6.out.next hO7 hD7 hF7)
           have HS7 := hide (sync_c HL7.out.dev hE3W)
           have k07 := HL7.out.c0
           clear hD7 hO7 hF7 HL6 k06
           go_wp2_with fail
           refine HS7.out.mono ?_
           rintro e w8 ⟨rfl, hD8, hO8⟩
           have HL8 := hide (HL7.out.next hO8 hD8 (fun k hk => .inl hk))
           clear hD8 hO8 HL7 k07
           go_wp2
           go_ret
           rw [HR4.out]
           exact ⟨rfl, fp7, HL8.out.dev, HL8.out.off, HL8.out.fresh⟩
end Go.Proofs.YteeembildppgmaaGreat
namespace Go.Proofs.YteeembildppgmaaGreat
open Go.RowKit
set_option linter.unusedVariables false
set_option linter.unusedSimpArgs false
def Rg.flushD (R : Rg) (D : Dv) : Int × Dv := R.layD D (R.fin / 118) ((R.tail - 1) / 118)

set_option maxHeartbeats 1000000 in
theorem flush_nothing {w : World} {q p : Nat} {gp : List Nat} {R : Rg} (h : RgAt w q p gp R) (hf : R.failed = false) (he : R.fin = R.tail) :
 Calls Tryz.prog 68 #[.pointer (some ⟨q, 0, none⟩)] w fun e w' => e = .returned (.int .i64 0) ∧ ∃ m, w' = w.drewN m := by
 have HT := hide (fun m => tail_any (h.drewN m))
 obtain ⟨hv, h⟩ := h
 have k6 := h.c6
 rw [hf] at k6
 have k4 := h.c4
 rw [he] at k4
 clear h hf he
 go_enter Tryz.func68, Tryz.ntmps68
 go_wp2
 go_quiet (first | (go_at_call 56; exact Calls.quiet_of (HT.out _)))
 go_wp2
 go_ret
 exact ⟨rfl, _, rfl⟩

set_option maxHeartbeats 1000000 in
set_option maxRecDepth 100000 in
theorem flush_lays {w : World} {q p : Nat} {gp fp : List Nat} {R : Rg} {D : Dv} (h : RgAt w q p gp R) (hD : DevC w p fp D) (hdis : ∀ k ∈ gp, k ∉ fp) (live : D.dead = false) (hn : R.fr + R.n ≤ D.L.length) (hm : D.W.length ≤ 100000)
 (hf : R.failed = false) (he : R.fin ≠ R.tail) :
 Calls Tryz.prog 68 #[.pointer (some ⟨q, 0, none⟩)] w fun e w' => e = .returned (.int .i64 (R.flushD D).1) ∧
  ∃ fp', RgAt w' q p gp (if (R.flushD D).1 = 0 then { R with fin := R.tail } else { R with failed := true }) ∧ DevC w' p fp' (R.flushD D).2 ∧ Off (gp ++ fp) w w' ∧ (∀ k ∈ fp', k ∈ fp ∨ w.heap.size ≤ k) := by
 have hwf := h.wf
 have hlt : R.fin < R.tail := by have := hwf.hi; omega
 have hTb : R.tail ≤ 2199025255552 := by have := hwf.start; have := hwf.held; unfold Rg.tail; omega
 have hfs : R.start ≤ R.fin := hwf.lo
 have hTs : R.tail - R.fin ≤ 2000000 := by have := hwf.held; unfold Rg.tail; omega
 have HT := hide (fun m => tail_any (h.drewN m))
 have HGP : Hid (∀ k ∈ gp, k < w.heap.size) := by obtain ⟨_, x⟩ := h; exact x.lim
 have HL := hide (fun m => lay_ok (w := w.drewN m) (R.fin / 118) ((R.tail - 1) / 118) (h.drewN m) (hD.drewN m) hdis live hn hm (by omega) (by omega) (by omega) (by omega))
 have HLA : Hid (LayAt w w q p gp fp fp R D) := ⟨h, hD, Off.refl _ _, fun k hk => .inl hk, hdis, HGP.out⟩
 have HNX : Hid (∀ m w5 fp5 E5, Off fp (w.drewN m) w5 → DevC w5 p fp5 E5 → (∀ k ∈ fp5, k ∈ fp ∨ (w.drewN m).heap.size ≤ k) → LayAt w w5 q p gp fp fp5 R E5) := fun m w5 fp5 E5 ho hd hf => (HLA.out.below (below_drewN _ _ m)).next ho hd hf
 obtain ⟨hv, h⟩ := h
 have k6 := h.c6
 rw [hf] at k6
 have k4 := h.c4
 obtain ⟨N, hN⟩ : ∃ N, R.flushD D = N := ⟨_, rfl⟩
 have hN' : R.layD D (R.fin / 118) ((R.tail - 1) / 118) = N := hN
 rw [hN'] at HL
 rw [hN]
 obtain ⟨R2, hR2⟩ : ∃ R2, (if N.1 = 0 then { R with fin := R.tail } else { R with failed := true }) = R2 := ⟨_, rfl⟩
 rw [hR2]
 have HR2 := hide hR2
 clear hR2
 obtain ⟨T, hT⟩ : ∃ T, R.tail = T := ⟨_, rfl⟩
 have HTE := hide hT
 rw [hT] at HT HL hlt hTb
 have h1 : (T : Int) - 1 = ((T - 1 : Nat) : Int) := by omega
 have hw1 : IntKind.i64.wrap ((T - 1 : Nat) : Int) = ((T - 1 : Nat) : Int) := by rw [IntKind.wrap_i64]; omega
 obtain ⟨F, hF⟩ : ∃ F, R.fin / 118 = F := ⟨_, rfl⟩
 obtain ⟨L, hL⟩ : ∃ L, (T - 1) / 118 = L := ⟨_, rfl⟩
 have hq1 : IntKind.i64.wrap ((R.fin : Int) / 118) = (F : Int) := by rw [IntKind.wrap_i64]; omega
 have hq2 : IntKind.i64.wrap (((T - 1 : Nat) : Int) / 118) = (L : Int) := by rw [IntKind.wrap_i64]; omega
 rw [hF, hL] at HL
 clear hF hL
 have hne : ((R.fin : Int) == (T : Int)) = false := beq_eq_false_iff_ne.2 (by omega)
 clear h hf he hT hN hN' hD hdis hTs
 go_enter Tryz.func68, Tryz.ntmps68
 go_wp2
 go_quiet (first | (go_at_call 56; exact Calls.quiet_of (HT.out _)))
 go_wp2
 go_region_held (fun w' => w'.cell? ⟨q, 4, none⟩ = some (.int .i64 R.fin)) (simp [*])
  (first
    | (go_at_call 56; refine (HT.out _).mono ?_; rintro e w1 ⟨rfl, m1, rfl⟩)
    | (go_at_call 101; refine (HL.out _).mono ?_; rintro e w5 ⟨rfl, fp5, hD5, hO5, hF5⟩; have hL5 := HNX.out _ w5 fp5 _ hO5 hD5 hF5; obtain ⟨hv5, hI5⟩ := hL5.rg; have k45 := hI5.c4; have k65 := hI5.c6; have f45 := hI5.fz 4; have f65 := hI5.fz 6; have HI5 := hide hI5; have HL5 := hide hL5; clear hD5 hO5 hF5 hL5 hI5))
 by_cases hz : N.1 = 0
 · have HT5 := hide (tail_any HL5.out.rg)
   rw [HTE.out] at HT5
   have HZ := hide hz
   rw [hz]
   clear hz
   go_wp2_with (first | (go_at_call 56; refine HT5.out.mono ?_; rintro e w' ⟨rfl, m6, rfl⟩))
   go_ret
   have hR2 := HR2.out
   rw [if_pos HZ.out] at hR2
   subst hR2
   have hI6 := (HI5.out.drewN m6).heads 4 (.int .i64 (T : Int)) { R with fin := R.tail } rfl ⟨hwf.two, hwf.many, hwf.fr, hwf.start, hwf.held, by show R.start ≤ R.tail; rw [HTE.out]; omega, Nat.le_refl _⟩ (by rw [← HTE.out]; rfl)
   have hO6 : Off gp w5 ((w5.drewN m6).setCell ⟨q, 4, none⟩ (.int .i64 (T : Int))) := ((Off.refl gp w5).drewN m6).setCell _ _ (.inl HI5.out.inQ)
   refine ⟨by rw [HZ.out]; rfl, fp5, ⟨_, hI6⟩, ?_, ?_, HL5.out.fresh⟩
   · exact HL5.out.dev.apart hO6 (fun k hk hm => HL5.out.dis k hm hk)
   · exact (HL5.out.off.mono (fun k hk => List.mem_append_right _ hk)).trans (hO6.mono (fun k hk => List.mem_append_left fp hk)) (fun i hi => .inl hi)
 · have hzb : (N.1 != 0) = true := by simpa using hz
   have HZ := hide hz
   clear hz
   go_wp2
   go_ret
   have hR2 := HR2.out
   rw [if_neg HZ.out] at hR2
   subst hR2
   have hI6 := HI5.out.heads 6 (.bool true) { R with failed := true } rfl ⟨hwf.two, hwf.many, hwf.fr, hwf.start, hwf.held, hwf.lo, hwf.hi⟩ rfl
   have hO6 : Off gp w5 (w5.setCell ⟨q, 6, none⟩ (.bool true)) := (Off.refl gp w5).setCell _ _ (.inl HI5.out.inQ)
   refine ⟨rfl, fp5, ⟨_, hI6⟩, ?_, ?_, HL5.out.fresh⟩
   · exact HL5.out.dev.apart hO6 (fun k hk hm => HL5.out.dis k hm hk)
   · exact (HL5.out.off.mono (fun k hk => List.mem_append_right _ hk)).trans (hO6.mono (fun k hk => List.mem_append_left fp hk)) (fun i hi => .inl hi)
end Go.Proofs.YteeembildppgmaaGreat
