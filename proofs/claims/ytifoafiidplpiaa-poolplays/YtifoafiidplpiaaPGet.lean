/- Put, Get, New. -/
import Derived.Test.YtifoafiidplpiaaPPut
namespace Go.Proofs.Ytifoafiidplpiaa
open Go.RowKit
set_option linter.unusedVariables false
set_option linter.unusedSimpArgs false

def Fm.fresh (m : Int) : Fm := ⟨true, m, [], false, false, 0, 0⟩
def Fm.read (m : Int) (bs : List UInt8) : Fm := ⟨true, m, bs, true, false, 0, 0⟩
def Pl.put {Φ : Force} (S : Pl Φ.σ) (n : Nat) (m : Int) (bs : List UInt8) (lsn : Int) : Int × Pl Φ.σ :=
  if m < 0 ∨ (n : Int) ≤ m ∨ lsn < 1 then (1, S) else match S.find m with
    | some i => (0, { S with fs := S.fs.set i ((S.fs.getD i Fm.nil).changed bs lsn) })
    | none => if S.free.1 ≠ 0 then (S.free.1, S.free.2.2) else (0, { S.free.2.2 with fs := S.free.2.2.fs.set S.free.2.1 ((Fm.fresh m).changed bs lsn) })
def Pl.get {Φ : Force} (S : Pl Φ.σ) (n : Nat) (m : Int) : List UInt8 × Int × Pl Φ.σ := match S.find m with
  | some i => ((S.fs.getD i Fm.nil).bs, 0, { S with fs := S.fs.set i { S.fs.getD i Fm.nil with asked := true } })
  | none => if m < 0 ∨ (n : Int) ≤ m then ([], 1, S) else if S.free.1 ≠ 0 then ([], S.free.1, S.free.2.2) else
    (S.disk.getD m.toNat [], 0, { S.free.2.2 with fs := S.free.2.2.fs.set S.free.2.1 (Fm.read m (S.disk.getD m.toNat [])) })
/-- Frames that hold a page have its bytes. -/
def Pl.full {σ : Type} (S : Pl σ) : Prop := ∀ f ∈ S.fs, f.held = true → f.bs.length = 512
theorem clock_len {σ : Type} : ∀ (k : Nat) (S : Pl σ), S.hand < S.fs.length → (S.clock k).1 < S.fs.length ∧ (S.clock k).2.fs.length = S.fs.length
  | 0, S, h => ⟨h, rfl⟩
  | k + 1, S, h => by
    rw [Pl.clock, List.getElem?_eq_getElem h]
    simp only
    split
    · have := clock_len k { S with fs := S.fs.set S.hand S.fs[S.hand].unasked, hand := S.next } (by simp only [List.length_set]; exact Nat.mod_lt _ (by omega))
      simpa using this
    · exact ⟨h, rfl⟩
theorem pick_len {σ : Type} (S : Pl σ) (h : S.hand < S.fs.length) : S.pick.1 < S.fs.length ∧ S.pick.2.fs.length = S.fs.length := by
  unfold Pl.pick
  split
  · rename_i i hi
    exact ⟨(List.findIdx?_eq_some_iff_getElem.1 hi).1, rfl⟩
  · exact clock_len 65 S h
theorem free_len {Φ : Force} (S : Pl Φ.σ) (h : S.hand < S.fs.length) : S.free.2.1 < S.free.2.2.fs.length := by
  have h1 := pick_len S h
  unfold Pl.free
  split
  · show S.pick.1 < (S.pick.2.wrote _).2.fs.length
    rw [(wrote_fs _ _).1, h1.2]
    exact h1.1
  · show S.pick.1 < S.pick.2.fs.length
    rw [h1.2]
    exact h1.1
section
variable {Φ : Force} {w0 w w' : World} {P G q p n : Nat} {xs bl ff : List Nat} {vs : List Value} {S : Pl Φ.σ} {D D' : Dv}
set_option maxHeartbeats 1000000 in
set_option maxRecDepth 100000 in
theorem put_any (h : PoolAt Φ w0 w P G q p n xs S) (m : Int) (g c : Nat) (bs : List UInt8) (hl : bs.length = 512) (hg : g ∈ xs) (hs : SrcAt w g 0 bs) (lsn : Int) (h1 : -9223372036854775808 ≤ lsn) (h2 : lsn ≤ 9223372036854775807) (hok : Φ.ok S.fo) (hpg : S.sound n) (hwr : S.wr ≤ 1000000) :
    Calls Try.prog 13 #[.pointer (some ⟨P, 0, none⟩), .int .i64 m, .slice (some ⟨g, 0, none⟩) 512 c, .int .i64 lsn] w fun e w' => e = .returned (.int .i64 (S.put n m bs lsn).1) ∧ PoolAt Φ w0 w' P G q p n xs (S.put n m bs lsn).2 ∧ Kept xs w w' := by
  obtain ⟨bl, ff, vs, D, h⟩ := h
  have c0 := h.c0
  have HPG := hide (b_pages h.fs)
  have hgG : g ≠ G := fun e => h.gb (by rw [← e]; simp [hg])
  by_cases ha : m < 0 ∨ (n : Int) ≤ m ∨ lsn < 1
  · have HPU : Hid (S.put n m bs lsn = (1, S)) := by show _ = _; unfold Pl.put; rw [if_pos ha]
    have H := hide h
    clear h hpg hs
    by_cases hm0 : m < 0
    · clear ha
      go_enter Try.func13, Try.ntmps13
      go_wp2_with (go_at_call 34; refine HPG.out.mono ?_; rintro e w' ⟨rfl, hw⟩; have hw := hw.symm; subst hw)
      go_ret
      rw [HPU.out]
      exact ⟨rfl, H.out.at, Kept.refl _ _⟩
    · by_cases hm1 : (n : Int) ≤ m
      · clear ha
        go_enter Try.func13, Try.ntmps13
        go_wp2_with (go_at_call 34; refine HPG.out.mono ?_; rintro e w' ⟨rfl, hw⟩; have hw := hw.symm; subst hw)
        go_ret
        rw [HPU.out]
        exact ⟨rfl, H.out.at, Kept.refl _ _⟩
      · have hl1 : lsn < 1 := by omega
        clear ha
        go_enter Try.func13, Try.ntmps13
        go_wp2_with (go_at_call 34; refine HPG.out.mono ?_; rintro e w' ⟨rfl, hw⟩; have hw := hw.symm; subst hw)
        go_ret
        rw [HPU.out]
        exact ⟨rfl, H.out.at, Kept.refl _ _⟩
  · have hm0 : ¬ m < 0 := by omega
    have hm1 : ¬ (n : Int) ≤ m := by omega
    have hl1 : ¬ lsn < 1 := by omega
    have HFI := hide (find_any h m)
    cases hf : S.find m with
    | some i =>
      obtain ⟨f, hfi, hfd, hhe, hpm, hfm, hi⟩ := find_some hf
      have HPU : Hid (S.put n m bs lsn = (0, { S with fs := S.fs.set i (f.changed bs lsn) })) := by show _ = _; unfold Pl.put; rw [if_neg ha, hf]; simp only [hfd]
      have HCH := hide (change_any h i f hfi g c bs hs hl hgG lsn h1 h2)
      rw [hf] at HFI
      have HFI : Hid (Calls Try.prog 29 #[.pointer (some ⟨P, 0, none⟩), .int .i64 m] w fun e w' => e = .returned (.pointer (some ⟨G, i * 7, none⟩)) ∧ w' = w) := HFI
      clear h hpg hs hf hfi hfd hhe hpm hfm ha hok
      go_enter Try.func13, Try.ntmps13
      go_wp2_with (first
        | (go_at_call 34; refine HPG.out.mono ?_; rintro e w' ⟨rfl, hw⟩; have hw := hw.symm; subst hw)
        | (go_at_call 29; refine HFI.out.mono ?_; rintro e w' ⟨rfl, hw⟩; have hw := hw.symm; subst hw)
        | (go_at_call 36; refine HCH.out.mono ?_; rintro e w3 ⟨rfl, h3, hK3⟩; have H3 := hide (And.intro h3 hK3); clear h3 hK3))
      go_ret
      rw [HPU.out]
      exact ⟨rfl, H3.out.1, H3.out.2⟩
    | none =>
      have HFR := hide (free_any h hok hpg hwr)
      have hlen := free_len S h.hand
      have HPU : Hid (S.put n m bs lsn = if S.free.1 ≠ 0 then (S.free.1, S.free.2.2) else (0, { S.free.2.2 with fs := S.free.2.2.fs.set S.free.2.1 ((Fm.fresh m).changed bs lsn) })) := by show _ = _; unfold Pl.put; rw [if_neg ha, hf]
      rw [hf] at HFI
      have HFI : Hid (Calls Try.prog 29 #[.pointer (some ⟨P, 0, none⟩), .int .i64 m] w fun e w' => e = .returned (.pointer none) ∧ w' = w) := HFI
      obtain ⟨⟨x, i, T⟩, hT⟩ : ∃ T, S.free = T := ⟨_, rfl⟩
      rw [hT] at HFR HPU hlen
      have HL := hide hlen
      have HS := hide hs
      clear h hpg hf ha hok hT hlen hs
      by_cases hx : x = 0
      · subst hx
        rw [if_neg (by simp)] at HPU
        have HFR : Hid (Calls Try.prog 35 #[.pointer (some ⟨P, 0, none⟩)] w fun e w' => e = .returned (.tuple #[.pointer (some ⟨G, i * 7, none⟩), .int .i64 0]) ∧ PoolAt Φ w0 w' P G q p n xs T ∧ Kept xs w w') := HFR
        have HHG := hide hg
        clear hg
        go_enter Try.func13, Try.ntmps13
        go_wp2_with (first
          | (go_at_call 34; refine HPG.out.mono ?_; rintro e w' ⟨rfl, hw⟩; have hw := hw.symm; subst hw)
          | (go_at_call 29; refine HFI.out.mono ?_; rintro e w' ⟨rfl, hw⟩; have hw := hw.symm; subst hw)
          | (go_at_call 35; refine HFR.out.mono ?_; rintro e w3 ⟨rfl, ⟨bl3, ff3, vs3, D3, h3⟩, hK3⟩; obtain ⟨w4, r1, r2, r3⟩ := h3.storeAll i HL.out (Fm.fresh m) (.slice none 0 0) (.inl ⟨rfl, rfl⟩) (by simp [Fm.fresh]); have HR1 := hide r1; have HK4 := hide (hK3.trans r3); have HCH := hide (change_any r2 i (Fm.fresh m) (List.getElem?_set_self HL.out) g c bs (HS.out.of HK4.out.1 (HK4.out.2 g HHG.out)) hl (fun e => h3.gb (by rw [← e]; simp [HHG.out])) lsn h1 h2); clear r1 r2 r3 h3 hK3)
          | (refine wpList_store_in rfl 82 _ _ rfl rfl G (i * 7) (fCells (Fm.fresh m) (.slice none 0 0)) w4 rfl rfl HR1.out ?_)
          | (go_at_call 36; refine HCH.out.mono ?_; rintro e w5 ⟨rfl, h5, hK5⟩; have H5 := hide (And.intro h5 hK5); clear h5 hK5))
        go_ret
        rw [HPU.out]
        have h6 := H5.out
        simp only [List.set_set] at h6
        exact ⟨rfl, h6.1, HK4.out.trans h6.2⟩
      · have hxb : (x != 0) = true := by simpa using hx
        rw [if_pos hx] at HPU
        have HFR : Hid (Calls Try.prog 35 #[.pointer (some ⟨P, 0, none⟩)] w fun e w' => e = .returned (.tuple #[.pointer none, .int .i64 x]) ∧ PoolAt Φ w0 w' P G q p n xs T ∧ Kept xs w w') := by
          have := HFR
          simp only [if_neg hx] at this
          exact this
        go_enter Try.func13, Try.ntmps13
        go_wp2_with (first
          | (go_at_call 34; refine HPG.out.mono ?_; rintro e w' ⟨rfl, hw⟩; have hw := hw.symm; subst hw)
          | (go_at_call 29; refine HFI.out.mono ?_; rintro e w' ⟨rfl, hw⟩; have hw := hw.symm; subst hw)
          | (go_at_call 35; refine HFR.out.mono ?_; rintro e w3 ⟨rfl, h3, hK3⟩; have H3 := hide (And.intro h3 hK3); clear h3 hK3))
        go_ret
        rw [HPU.out]
        exact ⟨rfl, H3.out.1, H3.out.2⟩
end
end Go.Proofs.Ytifoafiidplpiaa
