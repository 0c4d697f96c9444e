/- The law of Flush. -/
import Derived.Test.YtkkmkcobmjdblaaRLay
namespace Go.Proofs.Ytkkmkcobmjdblaa
open Go.RowKit
set_option linter.unusedVariables false
set_option linter.unusedSimpArgs false

/-- What Flush lays, where there is something to lay. -/
def Rg.flushD (R : Rg) (D : Dv) : Int × Dv := R.layD D (R.fin / 118) ((R.tail - 1) / 118)

set_option maxHeartbeats 1000000 in
theorem flush_nothing {w : World} {q p : Nat} {gp : List Nat} {R : Rg} (h : RgAt w q p gp R) (hf : R.failed = false) (he : R.fin = R.tail) :
    Calls Try.prog 14 #[.pointer (some ⟨q, 0, none⟩)] w fun e w' => e = .returned (.int .i64 0) ∧ ∃ m, w' = w.drewN m := by
  have HT := hide (fun m => tail_any (h.drewN m))
  obtain ⟨hv, h⟩ := h
  have k6 := h.c6
  rw [hf] at k6
  have k4 := h.c4
  rw [he] at k4
  clear h hf he
  go_enter Try.func14, Try.ntmps14
  go_wp2
  go_quiet (first | (go_at_call 29; exact Calls.quiet_of (HT.out _)))
  go_wp2
  go_ret
  exact ⟨rfl, _, rfl⟩

set_option maxHeartbeats 1000000 in
set_option maxRecDepth 100000 in
theorem flush_lays {w : World} {q p : Nat} {gp fp : List Nat} {R : Rg} {D : Dv} (h : RgAt w q p gp R) (hD : DevC w p fp D) (hdis : ∀ k ∈ gp, k ∉ fp) (live : D.dead = false) (hn : R.fr + R.n ≤ D.L.length) (hm : D.W.length ≤ 100000)
    (hf : R.failed = false) (he : R.fin ≠ R.tail) :
    Calls Try.prog 14 #[.pointer (some ⟨q, 0, none⟩)] w fun e w' => e = .returned (.int .i64 (R.flushD D).1) ∧
      ∃ fp', RgAt w' q p gp (if (R.flushD D).1 = 0 then { R with fin := R.tail } else { R with failed := true }) ∧ DevC w' p fp' (R.flushD D).2 ∧ Off (gp ++ fp) w w' ∧ (∀ k ∈ fp', k ∈ fp ∨ w.heap.size ≤ k) := by
  have hwf := h.wf
  have hlt : R.fin < R.tail := by have := hwf.hi; omega
  have hTb : R.tail ≤ 2199025255552 := by have := hwf.start; have := hwf.held; unfold Rg.tail; omega
  have hfs : R.start ≤ R.fin := hwf.lo
  have hTs : R.tail - R.fin ≤ 2000000 := by have := hwf.held; unfold Rg.tail; omega
  have HT := hide (fun m => tail_any (h.drewN m))
  have HGP : Hid (∀ k ∈ gp, k < w.heap.size) := by obtain ⟨_, x⟩ := h; exact x.lim
  have HL := hide (fun m => lay_ok (w := w.drewN m) (R.fin / 118) ((R.tail - 1) / 118) (h.drewN m) (hD.drewN m) hdis live hn hm (by omega) (by omega) (by omega) (by omega))
  have HLA : Hid (LayAt w w q p gp fp fp R D) := ⟨h, hD, Off.refl _ _, fun k hk => .inl hk, hdis, HGP.out⟩
  have HNX : Hid (∀ m w5 fp5 E5, Off fp (w.drewN m) w5 → DevC w5 p fp5 E5 → (∀ k ∈ fp5, k ∈ fp ∨ (w.drewN m).heap.size ≤ k) → LayAt w w5 q p gp fp fp5 R E5) := fun m w5 fp5 E5 ho hd hf => (HLA.out.below (below_drewN _ _ m)).next ho hd hf
  obtain ⟨hv, h⟩ := h
  have k6 := h.c6
  rw [hf] at k6
  have k4 := h.c4
  obtain ⟨N, hN⟩ : ∃ N, R.flushD D = N := ⟨_, rfl⟩
  have hN' : R.layD D (R.fin / 118) ((R.tail - 1) / 118) = N := hN
  rw [hN'] at HL
  rw [hN]
  obtain ⟨R2, hR2⟩ : ∃ R2, (if N.1 = 0 then { R with fin := R.tail } else { R with failed := true }) = R2 := ⟨_, rfl⟩
  rw [hR2]
  have HR2 := hide hR2
  clear hR2
  obtain ⟨T, hT⟩ : ∃ T, R.tail = T := ⟨_, rfl⟩
  have HTE := hide hT
  rw [hT] at HT HL hlt hTb
  have h1 : (T : Int) - 1 = ((T - 1 : Nat) : Int) := by omega
  have hw1 : IntKind.i64.wrap ((T - 1 : Nat) : Int) = ((T - 1 : Nat) : Int) := by rw [IntKind.wrap_i64]; omega
  obtain ⟨F, hF⟩ : ∃ F, R.fin / 118 = F := ⟨_, rfl⟩
  obtain ⟨L, hL⟩ : ∃ L, (T - 1) / 118 = L := ⟨_, rfl⟩
  have hq1 : IntKind.i64.wrap ((R.fin : Int) / 118) = (F : Int) := by rw [IntKind.wrap_i64]; omega
  have hq2 : IntKind.i64.wrap (((T - 1 : Nat) : Int) / 118) = (L : Int) := by rw [IntKind.wrap_i64]; omega
  rw [hF, hL] at HL
  clear hF hL
  have hne : ((R.fin : Int) == (T : Int)) = false := beq_eq_false_iff_ne.2 (by omega)
  clear h hf he hT hN hN' hD hdis hTs
  go_enter Try.func14, Try.ntmps14
  go_wp2
  go_quiet (first | (go_at_call 29; exact Calls.quiet_of (HT.out _)))
  go_wp2
  go_region_held (fun w' => w'.cell? ⟨q, 4, none⟩ = some (.int .i64 R.fin)) (simp [*])
    (first
      | (go_at_call 29; refine (HT.out _).mono ?_; rintro e w1 ⟨rfl, m1, rfl⟩)
      | (go_at_call 36; refine (HL.out _).mono ?_; rintro e w5 ⟨rfl, fp5, hD5, hO5, hF5⟩; have hL5 := HNX.out _ w5 fp5 _ hO5 hD5 hF5; obtain ⟨hv5, hI5⟩ := hL5.rg; have k45 := hI5.c4; have k65 := hI5.c6; have f45 := hI5.fz 4; have f65 := hI5.fz 6; have HI5 := hide hI5; have HL5 := hide hL5; clear hD5 hO5 hF5 hL5 hI5))
  by_cases hz : N.1 = 0
  · have HT5 := hide (tail_any HL5.out.rg)
    rw [HTE.out] at HT5
    have HZ := hide hz
    rw [hz]
    clear hz
    go_wp2_with (first | (go_at_call 29; refine HT5.out.mono ?_; rintro e w' ⟨rfl, m6, rfl⟩))
    go_ret
    have hR2 := HR2.out
    rw [if_pos HZ.out] at hR2
    subst hR2
    have hI6 := (HI5.out.drewN m6).heads 4 (.int .i64 (T : Int)) { R with fin := R.tail } rfl ⟨hwf.two, hwf.many, hwf.fr, hwf.start, hwf.held, by show R.start ≤ R.tail; rw [HTE.out]; omega, Nat.le_refl _⟩ (by rw [← HTE.out]; rfl)
    have hO6 : Off gp w5 ((w5.drewN m6).setCell ⟨q, 4, none⟩ (.int .i64 (T : Int))) := ((Off.refl gp w5).drewN m6).setCell _ _ (.inl HI5.out.inQ)
    refine ⟨by rw [HZ.out]; rfl, fp5, ⟨_, hI6⟩, ?_, ?_, HL5.out.fresh⟩
    · exact HL5.out.dev.apart hO6 (fun k hk hm => HL5.out.dis k hm hk)
    · exact (HL5.out.off.mono (fun k hk => List.mem_append_right _ hk)).trans (hO6.mono (fun k hk => List.mem_append_left fp hk)) (fun i hi => .inl hi)
  · have hzb : (N.1 != 0) = true := by simpa using hz
    have HZ := hide hz
    clear hz
    go_wp2
    go_ret
    have hR2 := HR2.out
    rw [if_neg HZ.out] at hR2
    subst hR2
    have hI6 := HI5.out.heads 6 (.bool true) { R with failed := true } rfl ⟨hwf.two, hwf.many, hwf.fr, hwf.start, hwf.held, hwf.lo, hwf.hi⟩ rfl
    have hO6 : Off gp w5 (w5.setCell ⟨q, 6, none⟩ (.bool true)) := (Off.refl gp w5).setCell _ _ (.inl HI5.out.inQ)
    refine ⟨rfl, fp5, ⟨_, hI6⟩, ?_, ?_, HL5.out.fresh⟩
    · exact HL5.out.dev.apart hO6 (fun k hk hm => HL5.out.dis k hm hk)
    · exact (HL5.out.off.mono (fun k hk => List.mem_append_right _ hk)).trans (hO6.mono (fun k hk => List.mem_append_left fp hk)) (fun i hi => .inl hi)
end Go.Proofs.Ytkkmkcobmjdblaa
