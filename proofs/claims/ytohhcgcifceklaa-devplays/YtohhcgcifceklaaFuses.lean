/- The walk of the law DevFuses: it returns true and writes nothing that was there. -/
import Derived.Test.YtohhcgcifceklaaFusesPlain
namespace Go.Proofs.Ytohhcgcifceklaa
open Go.RowKit
set_option linter.unusedVariables false
set_option linter.unusedSimpArgs false

/-- A slice of bools that came in. -/
def IsBools (w : World) (a : Option Addr) (len cap : Nat) (zs : List Bool) : Prop :=
  (a = none ∧ len = 0 ∧ cap = 0 ∧ zs = []) ∨
  ∃ x, a = some x ∧ len ≤ cap ∧ cap ≤ maxLen ∧ zs.length = cap ∧ (∀ i, i < zs.length → w.cell? (x.add i) = some (.bool (zs.getD i false)))

theorem bools_at {w : World} {a : Option Addr} {len cap : Nat} {zs : List Bool} (h : IsBools w a len cap zs) (k : Nat) (hk : k < len) :
    ∃ b o, a = some ⟨b, o, none⟩ ∧ b < w.heap.size ∧ w.cell? ⟨b, o + k, none⟩ = some (.bool (zs.getD k false)) := by
  rcases h with ⟨_, rfl, _, _⟩ | ⟨x, rfl, h1, h2, h3, h4⟩
  · omega
  · have hc := h4 k (by omega)
    obtain ⟨b, o, sp⟩ := x
    have hsp : sp = none := by simpa [Addr.add] using World.cell?_spot (h4 0 (by omega))
    subst hsp
    rw [Addr.add_mid] at hc
    exact ⟨b, o, rfl, World.block_lt_of_cell? w _ hc, hc⟩

set_option maxHeartbeats 1000000 in
set_option maxRecDepth 100000 in
theorem fuses_few (a0 : Option Addr) (len0 cap0 : Nat) (z0 : List Bool) (f : Int) (w : World) (w0 : IsBools w a0 len0 cap0 z0) (hf1 : -9223372036854775808 ≤ f) (hf2 : f ≤ 9223372036854775807) (hlen : len0 ≤ 60) :
    Calls Try.prog 5 #[.slice a0 len0 cap0, .int .i64 f] w fun e w' => e = .returned (.bool true) ∧ Below w.heap.size w w' := by
  have W0 := hide w0
  clear w0
  have hd60 : decide (60 < (len0 : Int)) = false := by simpa using (by omega : (len0 : Int) ≤ 60)
  go_enter Try.func5, Try.ntmps5
  go_wp2_with fail
  refine (new_dev 8 w (by omega) (by omega)).mono ?_
  rintro e w1 ⟨rfl, hD1, hB1⟩
  obtain ⟨p, hp⟩ : ∃ p, w.heap.size + 1 = p := ⟨_, rfl⟩
  have HL : Hid (∀ k ∈ [w.heap.size, p], w.heap.size ≤ k) := by show ∀ k ∈ _, _; simp; omega
  rw [hp] at hD1 ⊢
  generalize [w.heap.size, p] = fp at *
  clear hp
  go_wp2_with fail
  refine (fuse_dev p f w1 _ _ hD1 hf1 hf2).mono ?_
  rintro e w2 ⟨rfl, hD2, hO2⟩
  have hB2 : Below w.heap.size w w2 := hB1.trans (hO2.below hB1.size HL.out)
  have hI2 : FuseInv f 0 { Dv.fresh 8 with fuse := f } := ⟨by simp [Dv.fresh], by simp [Dv.fresh], by simp [Dv.fresh], fun _ => by simp⟩
  generalize ({ Dv.fresh 8 with fuse := f } : Dv) = D2 at *
  clear hD1 hB1 hO2
  go_wp2_with fail
  go_loopw [7] (fun i wr => ∃ (k : Nat) (fq : List Nat) (D : Dv), k ≤ len0 ∧ i = .int .i64 k ∧ DevAt wr p fq D ∧ Below w.heap.size w wr ∧ (∀ j ∈ fq, w.heap.size ≤ j) ∧ FuseInv f k D) (fun i _ => len0 - (intOf i).toNat)
  case atStart => exact ⟨0, fp, D2, Nat.zero_le _, rfl, hD2, hB2, HL.out, hI2⟩
  case round =>
    clear hI2 hB2 hD2 HL
    obtain ⟨k, fq, D, hk, rfl, hD, hB, hF, hI⟩ := hrel
    have HF := hide hF
    clear hF
    by_cases hlt : k < len0
    · obtain ⟨b, o, hab, hbs, hcell⟩ := bools_at W0.out k hlt
      subst hab
      have hcr : wr.cell? ⟨b, o + k, none⟩ = some (.bool (z0.getD k false)) := (hB.cell (p := ⟨b, o + k, none⟩) hbs).trans hcell
      clear hcell
      have hk60 : k < 60 := by omega
      cases hz : z0.getD k false with
      | true =>
        rw [hz] at hcr
        clear hz
        obtain ⟨r1, r2, r3⟩ := inv_sync hI
        have hfew : D.W.length < 1000000 := by have := hI.few; omega
        go_wp2_with fail
        refine (sync_dev p wr fq D hD hfew).mono ?_
        rintro e w4 ⟨rfl, hD4, hO4⟩
        have hB4 : Below w.heap.size w w4 := hB.trans (hO4.below hB.size HF.out)
        have hdv := dead_dev p w4 fq _ hD4
        rw [r1]
        rw [r2] at hdv
        generalize D.sync.2 = D4 at *
        clear r1 r2 hI hB hD hO4 hcr
        have HD := hide hdv
        have HI := hide r3
        clear hdv r3
        by_cases hok : okAt f k = true
        · rw [if_pos hok]
          rw [hok] at HD
          have hok' : f < 0 ∨ (k : Int) < f := by simpa [okAt] using hok
          clear hok
          by_cases hneg : f < 0
          · clear hok'
            go_wp2_with (go_at_call 23; refine HD.out.mono ?_; rintro e w5 ⟨rfl, hw5⟩; have hw5 := hw5.symm; subst hw5)
            go_roundw
            case rel => exact ⟨k + 1, fq, D4, by omega, by go_num, hD4, hB4, HF.out, HI.out⟩
            case measure => simp [intOf]; omega
          · have hkf : (k : Int) < f := by omega
            clear hok'
            go_wp2_with (go_at_call 23; refine HD.out.mono ?_; rintro e w5 ⟨rfl, hw5⟩; have hw5 := hw5.symm; subst hw5)
            go_roundw
            case rel => exact ⟨k + 1, fq, D4, by omega, by go_num, hD4, hB4, HF.out, HI.out⟩
            case measure => simp [intOf]; omega
        · rw [if_neg hok]
          have hok2 : okAt f k = false := by simpa using hok
          rw [hok2] at HD
          have hok' : ¬ (f < 0 ∨ (k : Int) < f) := by simpa [okAt] using hok
          have hneg : ¬ f < 0 := by omega
          have hkf : decide ((k : Int) < f) = false := by simp; omega
          clear hok hok' hok2
          go_wp2_with (go_at_call 23; refine HD.out.mono ?_; rintro e w5 ⟨rfl, hw5⟩; have hw5 := hw5.symm; subst hw5)
          go_roundw
          case rel => exact ⟨k + 1, fq, D4, by omega, by go_num, hD4, hB4, HF.out, HI.out⟩
          case measure => simp [intOf]; omega
      | false =>
        rw [hz] at hcr
        clear hz
        go_wp2_with fail
        refine (sector_dev 1 k wr).mono ?_
        rintro e w3 ⟨rfl, hq3, hB3⟩
        have hD3 := hD.below hB3
        have hqn := notin_fp hD
        go_wp2_with fail
        rw [and7]
        have hfew : D.W.length < 1000000 := by have := hI.few; omega
        obtain ⟨r1, r2, r3⟩ := inv_write hI ((k : Int) % 8) (sec 1 k) (by omega) (by omega) (length_sec _ _)
        refine (write_sec p ((k : Int) % 8) wr.heap.size 128 1 k 5 (0, 0) w3 fq D hD3 hfew hq3 hqn).mono ?_
        rintro e w4 ⟨rfl, fr, hD4, hO4, hF4⟩
        have hB4 : Below w.heap.size w w4 := (hB.trans (hB3.mono hB.size)).trans (hO4.below (Nat.le_trans hB.size hB3.size) HF.out)
        have HF4 : Hid (∀ j ∈ fr, w.heap.size ≤ j) := fun j hj => by
          rcases hF4 j hj with h | h
          · exact HF.out j h
          · exact Nat.le_trans (Nat.le_trans hB.size hB3.size) h
        have hdv := dead_dev p w4 fr _ hD4
        rw [r1]
        rw [r2] at hdv
        generalize (D.write ((k : Int) % 8) (sec 1 k)).2 = D4 at *
        clear r1 r2 hI hB hD hO4 hcr hF4 hD3 hB3 hq3 hqn
        have HD := hide hdv
        have HI := hide r3
        clear hdv r3
        by_cases hok : okAt f k = true
        · rw [if_pos hok]
          rw [hok] at HD
          have hok' : f < 0 ∨ (k : Int) < f := by simpa [okAt] using hok
          clear hok
          by_cases hneg : f < 0
          · clear hok'
            go_wp2_with (go_at_call 23; refine HD.out.mono ?_; rintro e w5 ⟨rfl, hw5⟩; have hw5 := hw5.symm; subst hw5)
            go_roundw
            case rel => exact ⟨k + 1, fr, D4, by omega, by go_num, hD4, hB4, HF4.out, HI.out⟩
            case measure => simp [intOf]; omega
          · have hkf : (k : Int) < f := by omega
            clear hok'
            go_wp2_with (go_at_call 23; refine HD.out.mono ?_; rintro e w5 ⟨rfl, hw5⟩; have hw5 := hw5.symm; subst hw5)
            go_roundw
            case rel => exact ⟨k + 1, fr, D4, by omega, by go_num, hD4, hB4, HF4.out, HI.out⟩
            case measure => simp [intOf]; omega
        · rw [if_neg hok]
          have hok2 : okAt f k = false := by simpa using hok
          rw [hok2] at HD
          have hok' : ¬ (f < 0 ∨ (k : Int) < f) := by simpa [okAt] using hok
          have hneg : ¬ f < 0 := by omega
          have hkf : decide ((k : Int) < f) = false := by simp; omega
          clear hok hok' hok2
          go_wp2_with (go_at_call 23; refine HD.out.mono ?_; rintro e w5 ⟨rfl, hw5⟩; have hw5 := hw5.symm; subst hw5)
          go_roundw
          case rel => exact ⟨k + 1, fr, D4, by omega, by go_num, hD4, hB4, HF4.out, HI.out⟩
          case measure => simp [intOf]; omega
    · clear W0
      have hfew : D.W.length < 1000000 := by have := hI.few; omega
      have h8 := hI.eight
      obtain ⟨q1, q2, q3, q4, q5⟩ := read_zero D h8
      go_wp2_with fail
      refine (read_dev p 0 wr fq D hD hfew).mono ?_
      rintro e w4 ⟨v4, rfl, _, hD4, hO4⟩
      have hB4 : Below w.heap.size w w4 := hB.trans (hO4.below hB.size HF.out)
      have hdv := dead_dev p w4 fq _ hD4
      rw [q2] at hdv
      rw [q1]
      have hfew4 : (D.read 0).2.2.W.length < 1000000 := by rw [q3]; exact hfew
      have h84 : (D.read 0).2.2.L.length = 8 := by rw [q4]; exact h8
      have hc := crash_none p w4 fq _ hD4 hfew4
      have hI5 := inv_crash (D.read 0).2.2 [] h84
      generalize ((D.read 0).2.2.crashed []) = D5 at *
      clear q1 q2 q3 q4 q5 hB hD hI hO4 hD4 h8 h84 hfew hfew4
      have HC := hide hc
      have HI5 := hide hI5
      have HD := hide hdv
      clear hc hI5 hdv
      have HR : Hid (∀ W : World, ∀ D : Dv, DevAt W p fq D → FuseInv (-1) 0 D → Calls Try.prog 13 #[.pointer (some ⟨p, 0, none⟩), .int .i64 0] W fun e w' => ∃ v, e = .returned (.tuple #[v, .int .i64 0]) ∧ DevAt w' p fq (D.read 0).2.2 ∧ Off fq W w') := fun W D h hI => by
        refine (read_dev p 0 W fq D h (by have := hI.few; omega)).mono ?_
        rintro e w5 ⟨v, rfl, _, h1, h2⟩
        refine ⟨v, ?_, h1, h2⟩
        rw [(read_zero D hI.eight).1, minus_live hI]
        rfl
      cases hdd : D.dead
      all_goals
        rw [hdd] at HD
        simp only [if_true, Bool.false_eq_true, if_false]
        clear hdd
        go_wp2_with (first | (go_at_call 23; refine HD.out.mono ?_; rintro e w5 ⟨rfl, hw5⟩; have hw5 := hw5.symm; subst hw5) | fail)
        refine HC.out.mono ?_
        rintro e w6 ⟨rfl, hD6, hO6⟩
        have hB6 : Below w.heap.size w w6 := hB4.trans (hO6.below hB4.size HF.out)
        go_wp2_with fail
        refine (HR.out w6 D5 hD6 HI5.out).mono ?_
        rintro e w7 ⟨v7, rfl, hD7, hO7⟩
        have hB7 : Below w.heap.size w w7 := hB6.trans (hO7.below hB6.size HF.out)
        have hI7 := inv_read HI5.out
        generalize (D5.read 0).2.2 = D7 at *
        go_wp2_with fail
        refine (sector_dev 2 2 w7).mono ?_
        rintro e w8 ⟨rfl, hq8, hB8⟩
        have hD8 := hD7.below hB8
        have hqn := notin_fp hD7
        go_wp2_with fail
        obtain ⟨r1, r2, r3⟩ := inv_write hI7 0 (sec 2 2) (by omega) (by omega) (length_sec _ _)
        refine (write_sec p 0 w7.heap.size 128 2 2 5 (0, 0) w8 fq D7 hD8 (by have := hI7.few; omega) hq8 hqn).mono ?_
        rintro e w9 ⟨rfl, fs, hD9, hO9, hF9⟩
        have hB9 : Below w.heap.size w w9 := (hB7.trans (hB8.mono hB7.size)).trans (hO9.below (Nat.le_trans hB7.size hB8.size) HF.out)
        have HF9 : Hid (∀ j ∈ fs, w.heap.size ≤ j) := fun j hj => by
          rcases hF9 j hj with h | h
          · exact HF.out j h
          · exact Nat.le_trans (Nat.le_trans hB7.size hB8.size) h
        rw [r1, if_pos (ok_minus 0)]
        generalize (D7.write 0 (sec 2 2)).2 = D9 at *
        have hdv := dead_dev p w9 fs D9 hD9
        rw [minus_live r3] at hdv
        obtain ⟨t1, _, _⟩ := inv_sync r3
        rw [if_pos (ok_minus 1)] at t1
        have hs9 := sync_dev p w9 fs D9 hD9 (by have := r3.few; omega)
        rw [t1] at hs9
        have HD9 := hide hdv
        have HS9 := hide hs9
        clear hdv hs9 r1 r2 r3 t1 hq8 hqn hF9
        go_wp2_with fail
        refine HD9.out.mono ?_
        rintro e w10 ⟨rfl, hw10⟩
        have hw10 := hw10.symm
        subst hw10
        go_wp2_with fail
        refine HS9.out.mono ?_
        rintro e w11 ⟨rfl, hD11, hO11⟩
        have hB11 : Below w.heap.size w w11 := hB9.trans (hO11.below hB9.size HF9.out)
        go_wp2_with fail
        refine (awake_true w11).mono ?_
        rintro e w12 ⟨rfl, hB12⟩
        go_wp2_with fail
        go_ret
        exact ⟨rfl, hB11.trans (hB12.mono hB11.size)⟩

set_option maxHeartbeats 400000 in
set_option maxRecDepth 100000 in
theorem fuses_many (a0 : Option Addr) (len0 cap0 : Nat) (f : Int) (w : World) (hlen : 60 < len0) :
    Calls Try.prog 5 #[.slice a0 len0 cap0, .int .i64 f] w fun e w' => e = .returned (.bool true) ∧ Below w.heap.size w w' := by
  have hd60 : decide (60 < (len0 : Int)) = true := by simpa using (by omega : (60 : Int) < (len0 : Int))
  go_enter Try.func5, Try.ntmps5
  go_wp2_with fail
  refine (new_dev 8 w (by omega) (by omega)).mono ?_
  rintro e w1 ⟨rfl, hD1, hB1⟩
  go_wp2_with fail
  refine (awake_true w1).mono ?_
  rintro e w12 ⟨rfl, hB12⟩
  go_wp2_with fail
  go_ret
  exact ⟨rfl, hB1.trans (hB12.mono hB1.size)⟩

theorem fuses_walk (a0 : Option Addr) (len0 cap0 : Nat) (z0 : List Bool) (f : Int) (w : World) (w0 : IsBools w a0 len0 cap0 z0) (hf1 : -9223372036854775808 ≤ f) (hf2 : f ≤ 9223372036854775807) :
    Calls Try.prog 5 #[.slice a0 len0 cap0, .int .i64 f] w fun e w' => e = .returned (.bool true) ∧ Below w.heap.size w w' := by
  by_cases h : 60 < len0
  · exact fuses_many a0 len0 cap0 f w h
  · exact fuses_few a0 len0 cap0 z0 f w w0 hf1 hf2 (by omega)
end Go.Proofs.Ytohhcgcifceklaa
