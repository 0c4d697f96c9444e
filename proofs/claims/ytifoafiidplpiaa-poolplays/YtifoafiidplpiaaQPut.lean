/- The document's pool: Put, Evict. -/
import Derived.Test.YtifoafiidplpiaaQGet
namespace Go.Proofs.Ytifoafiidplpiaa
open Go.RowKit
set_option linter.unusedVariables false
set_option linter.unusedSimpArgs false

section
variable {w w' : World} {r gD gF cD cF : Nat} {dx fx : List Value} {fov : Value} {S : Pl (List Int)} {bad : Int} {fp : List Nat}
set_option maxHeartbeats 4000000 in
set_option maxRecDepth 100000 in
theorem rput_any (h : RefIs w r gD gF cD cF dx fx fov S bad) (m : Int) (bs : List UInt8) (hbl : bs.length = 512) (lsn : Int) (hfo : S.fo.length ≤ 100000) (hwr : S.wr ≤ 1000000) (hpg : ∀ f ∈ S.fs, FmOk f) :
    Calls Try.prog 21 #[.pointer (some ⟨r, 0, none⟩), .int .i64 m, .string (strOf bs), .int .i64 lsn] w fun e w' => e = .returned (.int .i64 (S.rput bad m bs lsn).1) ∧ RefTo w w' r gD gF (RefFp r gD gF fov) (S.rput bad m bs lsn).2 bad := by
  have c0 := h.c0
  obtain ⟨B, hB⟩ : ∃ B, strOf bs = B := ⟨_, rfl⟩
  have hBs : B.size = 512 := by rw [← hB]; simpa [strOf, ByteArray.size] using hbl
  have HB := hide hB
  rw [hB]
  clear hB
  by_cases hin : m < 0 ∨ 6 ≤ m ∨ lsn < 1
  · have HPU : Hid (S.rput bad m bs lsn = (1, S)) := by show _ = _; unfold Pl.rput; rw [if_pos hin]
    have H := hide h
    clear h hpg
    by_cases h0 : m < 0
    · clear hin
      go_enter Try.func21, Try.ntmps21
      go_wp2
      go_ret
      rw [HPU.out]
      exact ⟨rfl, H.out.to (Off.refl _ _)⟩
    · by_cases h6 : m ≥ 6
      · clear hin
        go_enter Try.func21, Try.ntmps21
        go_wp2
        go_ret
        rw [HPU.out]
        exact ⟨rfl, H.out.to (Off.refl _ _)⟩
      · have hl : lsn < 1 := by omega
        clear hin
        go_enter Try.func21, Try.ntmps21
        go_wp2
        go_ret
        rw [HPU.out]
        exact ⟨rfl, H.out.to (Off.refl _ _)⟩
  · obtain ⟨k, rfl⟩ : ∃ k : Nat, m = (k : Int) := ⟨m.toNat, by omega⟩
    have hk6 : k < 6 := by omega
    have hk6' : ¬ ((k : Int) ≥ 6) := by omega
    have hl1 : ¬ lsn < 1 := by omega
    have HFI := hide (rfind_any h (k : Int))
    rw [rfind_eq S (k : Int) (by omega)] at HFI
    cases hf : S.find (k : Int) with
    | some i =>
      obtain ⟨f, hfi, hfd, hhe, hpm, hfm, hi⟩ := find_some hf
      have HPU : Hid (S.rput bad (k : Int) bs lsn = (0, { S with fs := S.fs.set i (f.changed bs lsn) })) := by show _ = _; unfold Pl.rput; rw [if_neg hin, hf]; simp only [hfd]
      rw [hf] at HFI
      have HFI : Hid (Calls Try.prog 42 #[.pointer (some ⟨r, 0, none⟩), .int .i64 (k : Int)] w fun e w' => e = .returned (.int .i64 (i : Int)) ∧ w' = w) := HFI
      have hi64 := h.f2
      have H1 := hide h
      have HF1 := hide hfi
      have HO1 : Hid (Off (RefFp r gD gF fov) w w) := Off.refl _ _
      obtain ⟨N, hN⟩ : ∃ N, S.fs.length = N := ⟨_, rfl⟩
      have HN1 := hide hN
      rw [hN] at hi hi64
      clear h hpg hf hfi hfd hhe hpm hfm hin hN
      go_enter Try.func21, Try.ntmps21
      go_upto_region 10 with (go_at_call 42; refine HFI.out.mono ?_; rintro e w' ⟨rfl, hw⟩; have hw := hw.symm; subst hw)
      clear c0 HFI
      have c1 := H1.out.c1
      rw [HN1.out] at c1
      obtain ⟨_, d0, d1, d2, d3, d4, d5⟩ := H1.out.cells i f HF1.out
      have z5 := H1.out.fzF (i * 6 + 5)
      by_cases hd : f.dirty = true
      · rw [hd] at d2
        have HG : Hid (f.changed bs lsn = { f with bs := bs, asked := true, dirty := true, lsn := lsn }) := by show _ = _; unfold Fm.changed; rw [if_pos hd]
        clear hd d0 d1 d3 d4 d5 z5
        go_upto_region 12 with fail
        clear c1 d2
        have c1 := H1.out.c1
        try simp only [List.length_set] at c1
        rw [HN1.out] at c1
        have hc2 := (H1.out.cells i (f) HF1.out).2.2.1
        have z1 := H1.out.fzF (i * 6 + 1)
        have H2 := hide (H1.out.setK i (f) HF1.out 1 (.string B) { (f) with bs := bs } (by omega) (by rw [← HB.out]; rfl))
        try simp only [List.set_set] at H2
        have HO2 : Hid (Off (RefFp r gD gF fov) w (w.setCell ⟨gF, i * 6 + 1, none⟩ (.string B))) := HO1.out.setCell _ _ (.inl (by simp [RefFp]))
        go_upto_region 13 with fail
        clear c1 hc2 z1
        generalize w.setCell ⟨gF, i * 6 + 1, none⟩ (.string B) = W3 at *
        have hlt := (List.getElem?_eq_some_iff.1 HF1.out).1
        have hf2 := List.getElem?_set_self (l := S.fs) (i := i) (a := { (f) with bs := bs }) hlt
        have c1 := H2.out.c1
        simp only [List.length_set] at c1
        rw [HN1.out] at c1
        have hc2 := (H2.out.cells i _ hf2).2.2.2.2.2.1
        have z1 := H2.out.fzF (i * 6 + 4)
        have H3 := hide (H2.out.setK i _ hf2 4 (.int .i64 lsn) { (f) with bs := bs, lsn := lsn } (by omega) rfl)
        simp only [List.set_set] at H3
        have HO3 : Hid (Off (RefFp r gD gF fov) w (W3.setCell ⟨gF, i * 6 + 4, none⟩ (.int .i64 lsn))) := HO2.out.setCell _ _ (.inl (by simp [RefFp]))
        clear hf2 hlt
        go_upto_region 14 with fail
        clear c1 hc2 z1
        generalize W3.setCell ⟨gF, i * 6 + 4, none⟩ (.int .i64 lsn) = W4 at *
        have hlt := (List.getElem?_eq_some_iff.1 HF1.out).1
        have hf3 := List.getElem?_set_self (l := S.fs) (i := i) (a := { (f) with bs := bs, lsn := lsn }) hlt
        have c1 := H3.out.c1
        simp only [List.length_set] at c1
        rw [HN1.out] at c1
        have hc2 := (H3.out.cells i _ hf3).2.2.2.1
        have z1 := H3.out.fzF (i * 6 + 2)
        have H4 := hide (H3.out.setK i _ hf3 2 (.bool true) { (f) with bs := bs, lsn := lsn, dirty := true } (by omega) rfl)
        simp only [List.set_set] at H4
        have HO4 : Hid (Off (RefFp r gD gF fov) w (W4.setCell ⟨gF, i * 6 + 2, none⟩ (.bool true))) := HO3.out.setCell _ _ (.inl (by simp [RefFp]))
        clear hf3 hlt
        go_upto_region 15 with fail
        clear c1 hc2 z1
        generalize W4.setCell ⟨gF, i * 6 + 2, none⟩ (.bool true) = W5 at *
        have hlt := (List.getElem?_eq_some_iff.1 HF1.out).1
        have hf4 := List.getElem?_set_self (l := S.fs) (i := i) (a := { (f) with bs := bs, lsn := lsn, dirty := true }) hlt
        have c1 := H4.out.c1
        simp only [List.length_set] at c1
        rw [HN1.out] at c1
        have hc2 := (H4.out.cells i _ hf4).2.2.2.2.1
        have z1 := H4.out.fzF (i * 6 + 3)
        have H5 := hide (H4.out.setK i _ hf4 3 (.bool true) { (f) with bs := bs, lsn := lsn, dirty := true, asked := true } (by omega) rfl)
        simp only [List.set_set] at H5
        have HO5 : Hid (Off (RefFp r gD gF fov) w (W5.setCell ⟨gF, i * 6 + 3, none⟩ (.bool true))) := HO4.out.setCell _ _ (.inl (by simp [RefFp]))
        clear hf4 hlt
        go_wp2
        go_ret
        have h5 := H5.out
        have hg := HG.out
        rw [HPU.out, hg]
        exact ⟨rfl, h5.to HO5.out⟩
      · have hd' : f.dirty = false := by simpa using hd
        rw [hd'] at d2
        have HG : Hid (f.changed bs lsn = { f with bs := bs, asked := true, dirty := true, rlsn := lsn, lsn := lsn }) := by show _ = _; unfold Fm.changed; rw [if_neg hd]
        have H1' := hide (H1.out.setK i f HF1.out 5 (.int .i64 lsn) { f with rlsn := lsn } (by omega) rfl)
        have HO1' : Hid (Off (RefFp r gD gF fov) w (w.setCell ⟨gF, i * 6 + 5, none⟩ (.int .i64 lsn))) := HO1.out.setCell _ _ (.inl (by simp [RefFp]))
        clear hd hd' d0 d1 d3 d4
        go_upto_region 12 with fail
        clear c1 d2 d5 z5
        generalize w.setCell ⟨gF, i * 6 + 5, none⟩ (.int .i64 lsn) = W2 at *
        have c1 := H1'.out.c1
        try simp only [List.length_set] at c1
        rw [HN1.out] at c1
        have hc2 := (H1'.out.cells i (({ f with rlsn := lsn } : Fm)) (List.getElem?_set_self (List.getElem?_eq_some_iff.1 HF1.out).1)).2.2.1
        have z1 := H1'.out.fzF (i * 6 + 1)
        have H2 := hide (H1'.out.setK i (({ f with rlsn := lsn } : Fm)) (List.getElem?_set_self (List.getElem?_eq_some_iff.1 HF1.out).1) 1 (.string B) { (({ f with rlsn := lsn } : Fm)) with bs := bs } (by omega) (by rw [← HB.out]; rfl))
        try simp only [List.set_set] at H2
        have HO2 : Hid (Off (RefFp r gD gF fov) w (W2.setCell ⟨gF, i * 6 + 1, none⟩ (.string B))) := HO1'.out.setCell _ _ (.inl (by simp [RefFp]))
        go_upto_region 13 with fail
        clear c1 hc2 z1
        generalize W2.setCell ⟨gF, i * 6 + 1, none⟩ (.string B) = W3 at *
        have hlt := (List.getElem?_eq_some_iff.1 HF1.out).1
        have hf2 := List.getElem?_set_self (l := S.fs) (i := i) (a := { (({ f with rlsn := lsn } : Fm)) with bs := bs }) hlt
        have c1 := H2.out.c1
        simp only [List.length_set] at c1
        rw [HN1.out] at c1
        have hc2 := (H2.out.cells i _ hf2).2.2.2.2.2.1
        have z1 := H2.out.fzF (i * 6 + 4)
        have H3 := hide (H2.out.setK i _ hf2 4 (.int .i64 lsn) { (({ f with rlsn := lsn } : Fm)) with bs := bs, lsn := lsn } (by omega) rfl)
        simp only [List.set_set] at H3
        have HO3 : Hid (Off (RefFp r gD gF fov) w (W3.setCell ⟨gF, i * 6 + 4, none⟩ (.int .i64 lsn))) := HO2.out.setCell _ _ (.inl (by simp [RefFp]))
        clear hf2 hlt
        go_upto_region 14 with fail
        clear c1 hc2 z1
        generalize W3.setCell ⟨gF, i * 6 + 4, none⟩ (.int .i64 lsn) = W4 at *
        have hlt := (List.getElem?_eq_some_iff.1 HF1.out).1
        have hf3 := List.getElem?_set_self (l := S.fs) (i := i) (a := { (({ f with rlsn := lsn } : Fm)) with bs := bs, lsn := lsn }) hlt
        have c1 := H3.out.c1
        simp only [List.length_set] at c1
        rw [HN1.out] at c1
        have hc2 := (H3.out.cells i _ hf3).2.2.2.1
        have z1 := H3.out.fzF (i * 6 + 2)
        have H4 := hide (H3.out.setK i _ hf3 2 (.bool true) { (({ f with rlsn := lsn } : Fm)) with bs := bs, lsn := lsn, dirty := true } (by omega) rfl)
        simp only [List.set_set] at H4
        have HO4 : Hid (Off (RefFp r gD gF fov) w (W4.setCell ⟨gF, i * 6 + 2, none⟩ (.bool true))) := HO3.out.setCell _ _ (.inl (by simp [RefFp]))
        clear hf3 hlt
        go_upto_region 15 with fail
        clear c1 hc2 z1
        generalize W4.setCell ⟨gF, i * 6 + 2, none⟩ (.bool true) = W5 at *
        have hlt := (List.getElem?_eq_some_iff.1 HF1.out).1
        have hf4 := List.getElem?_set_self (l := S.fs) (i := i) (a := { (({ f with rlsn := lsn } : Fm)) with bs := bs, lsn := lsn, dirty := true }) hlt
        have c1 := H4.out.c1
        simp only [List.length_set] at c1
        rw [HN1.out] at c1
        have hc2 := (H4.out.cells i _ hf4).2.2.2.2.1
        have z1 := H4.out.fzF (i * 6 + 3)
        have H5 := hide (H4.out.setK i _ hf4 3 (.bool true) { (({ f with rlsn := lsn } : Fm)) with bs := bs, lsn := lsn, dirty := true, asked := true } (by omega) rfl)
        simp only [List.set_set] at H5
        have HO5 : Hid (Off (RefFp r gD gF fov) w (W5.setCell ⟨gF, i * 6 + 3, none⟩ (.bool true))) := HO4.out.setCell _ _ (.inl (by simp [RefFp]))
        clear hf4 hlt
        go_wp2
        go_ret
        have h5 := H5.out
        have hg := HG.out
        rw [HPU.out, hg]
        exact ⟨rfl, h5.to HO5.out⟩
    | none =>
      have HFR := hide (rfree_any h hfo hwr hpg)
      have hlen := rfree_len bad S h.hand
      have HPU0 : Hid (S.rput bad (k : Int) bs lsn = if (S.rfree bad).1 ≠ 0 then ((S.rfree bad).1, (S.rfree bad).2.2) else (0, { (S.rfree bad).2.2 with fs := (S.rfree bad).2.2.fs.set (S.rfree bad).2.1 ((Fm.fresh (k : Int)).changed bs lsn) })) := by show _ = _; unfold Pl.rput; rw [if_neg hin, hf]
      rw [hf] at HFI
      have HFI : Hid (Calls Try.prog 42 #[.pointer (some ⟨r, 0, none⟩), .int .i64 (k : Int)] w fun e w' => e = .returned (.int .i64 (-1)) ∧ w' = w) := HFI
      obtain ⟨⟨x, i, T⟩, hT⟩ : ∃ T, S.rfree bad = T := ⟨_, rfl⟩
      rw [hT] at HFR HPU0 hlen
      have HFR : Hid (Calls Try.prog 43 #[.pointer (some ⟨r, 0, none⟩)] w fun e w' => e = .returned (.tuple #[.int .i64 (i : Int), .int .i64 x]) ∧ RefTo w w' r gD gF (RefFp r gD gF fov) T bad) := HFR
      have hlen : i < T.fs.length := hlen
      clear h hpg hf hin hT
      by_cases hx : x = 0
      · subst hx
        have HPU : Hid (S.rput bad (k : Int) bs lsn = (0, { T with fs := T.fs.set i ((Fm.fresh (k : Int)).changed bs lsn) })) := by show _ = _; rw [HPU0.out, if_neg (by simp)]
        clear HPU0
        go_enter Try.func21, Try.ntmps21
        go_upto_region 9 with (first
          | (go_at_call 42; refine HFI.out.mono ?_; rintro e w' ⟨rfl, hw⟩; have hw := hw.symm; subst hw)
          | (go_at_call 43; refine HFR.out.mono ?_; rintro e w3 ⟨rfl, h3⟩))
        obtain ⟨fp3, ⟨cE, cG, dx3, fx3, fov3, hfp3, h3⟩, hO3, hF3⟩ := h3
        subst hfp3
        clear HFI HFR c0
        have c1 := h3.c1
        have hi64 := h3.f2
        obtain ⟨N, hN⟩ : ∃ N, T.fs.length = N := ⟨_, rfl⟩
        rw [hN] at c1 hi64
        have hi : i < N := by omega
        obtain ⟨w5, q1, q2, q3⟩ := h3.storeAll i hlen (Fm.fresh (k : Int))
        have HST : Hid ((Instr.storeAt 63 (.pointer (some ⟨gF, i * 6, none⟩)) (.agg #[.int .i64 (k : Int), .string ⟨#[]⟩, .bool false, .bool false, .int .i64 0, .int .i64 0])).run Try.prog w3 = .ok () w5) := q1
        obtain ⟨f, hfe⟩ : ∃ f, Fm.fresh (k : Int) = f := ⟨_, rfl⟩
        rw [hfe] at q2
        obtain ⟨S1, hS1⟩ : ∃ S1 : Pl (List Int), S1 = { T with fs := T.fs.set i f } := ⟨_, rfl⟩
        rw [← hS1] at q2
        have HF1 : Hid (S1.fs[i]? = some f) := by show _ = _; rw [hS1]; exact List.getElem?_set_self hlen
        have HN1 : Hid (S1.fs.length = N) := by show _ = _; rw [hS1]; simpa using hN
        have HO1 : Hid (Off (RefFp r gD gF fov3) w3 w5) := q3.mono (fun k hk => by simp at hk; subst hk; simp [RefFp])
        have H1 := hide q2
        have HR3 := hide (And.intro hO3 hF3)
        have HS1 := hide hS1
        have HFE := hide hfe
        clear q1 q2 q3 h3 hO3 hF3 hN hS1 hfe hlen
        go_upto_region 10 with (refine wpList_store_in rfl 63 _ _ rfl rfl gF (i * 6) [.int .i64 (k : Int), .string ⟨#[]⟩, .bool false, .bool false, .int .i64 0, .int .i64 0] w5 rfl rfl HST.out ?_)
        clear c1
        have c1 := H1.out.c1
        rw [HN1.out] at c1
        obtain ⟨_, d0, d1, d2, d3, d4, d5⟩ := H1.out.cells i f HF1.out
        have z5 := H1.out.fzF (i * 6 + 5)
        by_cases hd : f.dirty = true
        · rw [hd] at d2
          have HG : Hid (f.changed bs lsn = { f with bs := bs, asked := true, dirty := true, lsn := lsn }) := by show _ = _; unfold Fm.changed; rw [if_pos hd]
          clear hd d0 d1 d3 d4 d5 z5
          go_upto_region 12 with fail
          clear c1 d2
          have c1 := H1.out.c1
          try simp only [List.length_set] at c1
          rw [HN1.out] at c1
          have hc2 := (H1.out.cells i (f) HF1.out).2.2.1
          have z1 := H1.out.fzF (i * 6 + 1)
          have H2 := hide (H1.out.setK i (f) HF1.out 1 (.string B) { (f) with bs := bs } (by omega) (by rw [← HB.out]; rfl))
          try simp only [List.set_set] at H2
          have HO2 : Hid (Off (RefFp r gD gF fov3) w3 (w5.setCell ⟨gF, i * 6 + 1, none⟩ (.string B))) := HO1.out.setCell _ _ (.inl (by simp [RefFp]))
          go_upto_region 13 with fail
          clear c1 hc2 z1
          generalize w5.setCell ⟨gF, i * 6 + 1, none⟩ (.string B) = W3 at *
          have hlt := (List.getElem?_eq_some_iff.1 HF1.out).1
          have hf2 := List.getElem?_set_self (l := S1.fs) (i := i) (a := { (f) with bs := bs }) hlt
          have c1 := H2.out.c1
          simp only [List.length_set] at c1
          rw [HN1.out] at c1
          have hc2 := (H2.out.cells i _ hf2).2.2.2.2.2.1
          have z1 := H2.out.fzF (i * 6 + 4)
          have H3 := hide (H2.out.setK i _ hf2 4 (.int .i64 lsn) { (f) with bs := bs, lsn := lsn } (by omega) rfl)
          simp only [List.set_set] at H3
          have HO3 : Hid (Off (RefFp r gD gF fov3) w3 (W3.setCell ⟨gF, i * 6 + 4, none⟩ (.int .i64 lsn))) := HO2.out.setCell _ _ (.inl (by simp [RefFp]))
          clear hf2 hlt
          go_upto_region 14 with fail
          clear c1 hc2 z1
          generalize W3.setCell ⟨gF, i * 6 + 4, none⟩ (.int .i64 lsn) = W4 at *
          have hlt := (List.getElem?_eq_some_iff.1 HF1.out).1
          have hf3 := List.getElem?_set_self (l := S1.fs) (i := i) (a := { (f) with bs := bs, lsn := lsn }) hlt
          have c1 := H3.out.c1
          simp only [List.length_set] at c1
          rw [HN1.out] at c1
          have hc2 := (H3.out.cells i _ hf3).2.2.2.1
          have z1 := H3.out.fzF (i * 6 + 2)
          have H4 := hide (H3.out.setK i _ hf3 2 (.bool true) { (f) with bs := bs, lsn := lsn, dirty := true } (by omega) rfl)
          simp only [List.set_set] at H4
          have HO4 : Hid (Off (RefFp r gD gF fov3) w3 (W4.setCell ⟨gF, i * 6 + 2, none⟩ (.bool true))) := HO3.out.setCell _ _ (.inl (by simp [RefFp]))
          clear hf3 hlt
          go_upto_region 15 with fail
          clear c1 hc2 z1
          generalize W4.setCell ⟨gF, i * 6 + 2, none⟩ (.bool true) = W5 at *
          have hlt := (List.getElem?_eq_some_iff.1 HF1.out).1
          have hf4 := List.getElem?_set_self (l := S1.fs) (i := i) (a := { (f) with bs := bs, lsn := lsn, dirty := true }) hlt
          have c1 := H4.out.c1
          simp only [List.length_set] at c1
          rw [HN1.out] at c1
          have hc2 := (H4.out.cells i _ hf4).2.2.2.2.1
          have z1 := H4.out.fzF (i * 6 + 3)
          have H5 := hide (H4.out.setK i _ hf4 3 (.bool true) { (f) with bs := bs, lsn := lsn, dirty := true, asked := true } (by omega) rfl)
          simp only [List.set_set] at H5
          have HO5 : Hid (Off (RefFp r gD gF fov3) w3 (W5.setCell ⟨gF, i * 6 + 3, none⟩ (.bool true))) := HO4.out.setCell _ _ (.inl (by simp [RefFp]))
          clear hf4 hlt
          go_wp2
          go_ret
          have h5 := H5.out
          have hg := HG.out
          rw [HPU.out]
          have h6 := h5
          rw [HS1.out] at h6
          simp only [List.set_set] at h6
          refine ⟨rfl, RefTo.more (RefFp r gD gF fov3) HR3.out.1 HR3.out.2 ?_⟩
          rw [HFE.out, hg]
          exact h6.to HO5.out
        · have hd' : f.dirty = false := by simpa using hd
          rw [hd'] at d2
          have HG : Hid (f.changed bs lsn = { f with bs := bs, asked := true, dirty := true, rlsn := lsn, lsn := lsn }) := by show _ = _; unfold Fm.changed; rw [if_neg hd]
          have H1' := hide (H1.out.setK i f HF1.out 5 (.int .i64 lsn) { f with rlsn := lsn } (by omega) rfl)
          have HO1' : Hid (Off (RefFp r gD gF fov3) w3 (w5.setCell ⟨gF, i * 6 + 5, none⟩ (.int .i64 lsn))) := HO1.out.setCell _ _ (.inl (by simp [RefFp]))
          clear hd hd' d0 d1 d3 d4
          go_upto_region 12 with fail
          clear c1 d2 d5 z5
          generalize w5.setCell ⟨gF, i * 6 + 5, none⟩ (.int .i64 lsn) = W2 at *
          have c1 := H1'.out.c1
          try simp only [List.length_set] at c1
          rw [HN1.out] at c1
          have hc2 := (H1'.out.cells i (({ f with rlsn := lsn } : Fm)) (List.getElem?_set_self (List.getElem?_eq_some_iff.1 HF1.out).1)).2.2.1
          have z1 := H1'.out.fzF (i * 6 + 1)
          have H2 := hide (H1'.out.setK i (({ f with rlsn := lsn } : Fm)) (List.getElem?_set_self (List.getElem?_eq_some_iff.1 HF1.out).1) 1 (.string B) { (({ f with rlsn := lsn } : Fm)) with bs := bs } (by omega) (by rw [← HB.out]; rfl))
          try simp only [List.set_set] at H2
          have HO2 : Hid (Off (RefFp r gD gF fov3) w3 (W2.setCell ⟨gF, i * 6 + 1, none⟩ (.string B))) := HO1'.out.setCell _ _ (.inl (by simp [RefFp]))
          go_upto_region 13 with fail
          clear c1 hc2 z1
          generalize W2.setCell ⟨gF, i * 6 + 1, none⟩ (.string B) = W3 at *
          have hlt := (List.getElem?_eq_some_iff.1 HF1.out).1
          have hf2 := List.getElem?_set_self (l := S1.fs) (i := i) (a := { (({ f with rlsn := lsn } : Fm)) with bs := bs }) hlt
          have c1 := H2.out.c1
          simp only [List.length_set] at c1
          rw [HN1.out] at c1
          have hc2 := (H2.out.cells i _ hf2).2.2.2.2.2.1
          have z1 := H2.out.fzF (i * 6 + 4)
          have H3 := hide (H2.out.setK i _ hf2 4 (.int .i64 lsn) { (({ f with rlsn := lsn } : Fm)) with bs := bs, lsn := lsn } (by omega) rfl)
          simp only [List.set_set] at H3
          have HO3 : Hid (Off (RefFp r gD gF fov3) w3 (W3.setCell ⟨gF, i * 6 + 4, none⟩ (.int .i64 lsn))) := HO2.out.setCell _ _ (.inl (by simp [RefFp]))
          clear hf2 hlt
          go_upto_region 14 with fail
          clear c1 hc2 z1
          generalize W3.setCell ⟨gF, i * 6 + 4, none⟩ (.int .i64 lsn) = W4 at *
          have hlt := (List.getElem?_eq_some_iff.1 HF1.out).1
          have hf3 := List.getElem?_set_self (l := S1.fs) (i := i) (a := { (({ f with rlsn := lsn } : Fm)) with bs := bs, lsn := lsn }) hlt
          have c1 := H3.out.c1
          simp only [List.length_set] at c1
          rw [HN1.out] at c1
          have hc2 := (H3.out.cells i _ hf3).2.2.2.1
          have z1 := H3.out.fzF (i * 6 + 2)
          have H4 := hide (H3.out.setK i _ hf3 2 (.bool true) { (({ f with rlsn := lsn } : Fm)) with bs := bs, lsn := lsn, dirty := true } (by omega) rfl)
          simp only [List.set_set] at H4
          have HO4 : Hid (Off (RefFp r gD gF fov3) w3 (W4.setCell ⟨gF, i * 6 + 2, none⟩ (.bool true))) := HO3.out.setCell _ _ (.inl (by simp [RefFp]))
          clear hf3 hlt
          go_upto_region 15 with fail
          clear c1 hc2 z1
          generalize W4.setCell ⟨gF, i * 6 + 2, none⟩ (.bool true) = W5 at *
          have hlt := (List.getElem?_eq_some_iff.1 HF1.out).1
          have hf4 := List.getElem?_set_self (l := S1.fs) (i := i) (a := { (({ f with rlsn := lsn } : Fm)) with bs := bs, lsn := lsn, dirty := true }) hlt
          have c1 := H4.out.c1
          simp only [List.length_set] at c1
          rw [HN1.out] at c1
          have hc2 := (H4.out.cells i _ hf4).2.2.2.2.1
          have z1 := H4.out.fzF (i * 6 + 3)
          have H5 := hide (H4.out.setK i _ hf4 3 (.bool true) { (({ f with rlsn := lsn } : Fm)) with bs := bs, lsn := lsn, dirty := true, asked := true } (by omega) rfl)
          simp only [List.set_set] at H5
          have HO5 : Hid (Off (RefFp r gD gF fov3) w3 (W5.setCell ⟨gF, i * 6 + 3, none⟩ (.bool true))) := HO4.out.setCell _ _ (.inl (by simp [RefFp]))
          clear hf4 hlt
          go_wp2
          go_ret
          have h5 := H5.out
          have hg := HG.out
          rw [HPU.out]
          have h6 := h5
          rw [HS1.out] at h6
          simp only [List.set_set] at h6
          refine ⟨rfl, RefTo.more (RefFp r gD gF fov3) HR3.out.1 HR3.out.2 ?_⟩
          rw [HFE.out, hg]
          exact h6.to HO5.out
      · have hxb : (x != 0) = true := by simpa using hx
        have HPU : Hid (S.rput bad (k : Int) bs lsn = (x, T)) := by show _ = _; rw [HPU0.out, if_pos (by simpa using hx)]
        clear HPU0
        go_enter Try.func21, Try.ntmps21
        go_wp2_with (first
          | (go_at_call 42; refine HFI.out.mono ?_; rintro e w' ⟨rfl, hw⟩; have hw := hw.symm; subst hw)
          | (go_at_call 43; refine HFR.out.mono ?_; rintro e w3 ⟨rfl, h3⟩))
        go_ret
        rw [HPU.out]
        exact ⟨rfl, h3⟩
set_option maxHeartbeats 2000000 in
set_option maxRecDepth 100000 in
theorem revict_any (h : RefIs w r gD gF cD cF dx fx fov S bad) (m : Int) (hfo : S.fo.length ≤ 100000) (hwr : S.wr ≤ 1000000) (hpg : ∀ f ∈ S.fs, FmOk f) :
    Calls Try.prog 22 #[.pointer (some ⟨r, 0, none⟩), .int .i64 m] w fun e w' => e = .returned (.int .i64 (S.revict bad m).1) ∧ RefTo w w' r gD gF (RefFp r gD gF fov) (S.revict bad m).2 bad := by
  have HFI := hide (rfind_any h m)
  by_cases h0 : m < 0
  · have HPU : Hid (S.revict bad m = (0, S)) := by show _ = _; unfold Pl.revict; rw [if_pos h0]
    have H := hide h
    obtain ⟨z, hz⟩ : ∃ z, idxOf (S.rfind m) = z := ⟨_, rfl⟩
    rw [hz] at HFI
    clear h hpg hz
    go_enter Try.func22, Try.ntmps22
    go_wp2_with (go_at_call 42; refine HFI.out.mono ?_; rintro e w' ⟨rfl, hw⟩; have hw := hw.symm; subst hw)
    go_ret
    rw [HPU.out]
    exact ⟨rfl, H.out.to (Off.refl _ _)⟩
  · rw [rfind_eq S m (by omega)] at HFI
    cases hf : S.find m with
    | none =>
      rw [hf] at HFI
      have HFI : Hid (Calls Try.prog 42 #[.pointer (some ⟨r, 0, none⟩), .int .i64 m] w fun e w' => e = .returned (.int .i64 (-1)) ∧ w' = w) := HFI
      have HPU : Hid (S.revict bad m = (0, S)) := by show _ = _; unfold Pl.revict; rw [if_neg h0, hf]
      have H := hide h
      clear h hpg hf
      go_enter Try.func22, Try.ntmps22
      go_wp2_with (go_at_call 42; refine HFI.out.mono ?_; rintro e w' ⟨rfl, hw⟩; have hw := hw.symm; subst hw)
      go_ret
      rw [HPU.out]
      exact ⟨rfl, H.out.to (Off.refl _ _)⟩
    | some i =>
      obtain ⟨f, hfi, hfd, hhe, hpm, hfm, hi⟩ := find_some hf
      rw [hf] at HFI
      have HFI : Hid (Calls Try.prog 42 #[.pointer (some ⟨r, 0, none⟩), .int .i64 m] w fun e w' => e = .returned (.int .i64 (i : Int)) ∧ w' = w) := HFI
      have HPU0 : Hid (S.revict bad m = if (S.rwrote bad f).1 ≠ 0 then S.rwrote bad f else (0, { (S.rwrote bad f).2 with fs := S.fs.set i Fm.nil })) := by show _ = _; unfold Pl.revict; rw [if_neg h0, hf]; simp only [hfd]
      have HW := hide (rwrite_any h i f hfi hfo hwr (hpg f hfm).dirty)
      have HFS := hide (rwrote_fs bad S f).1
      obtain ⟨⟨x, T⟩, hT⟩ : ∃ T, S.rwrote bad f = T := ⟨_, rfl⟩
      rw [hT] at HW HPU0 HFS
      have HW : Hid (Calls Try.prog 44 #[.pointer (some ⟨r, 0, none⟩), .int .i64 (i : Int)] w fun e w' => e = .returned (.int .i64 x) ∧ RefTo w w' r gD gF (RefFp r gD gF fov) T bad) := HW
      have HFS : Hid (T.fs = S.fs) := HFS
      have hiT : i < T.fs.length := by rw [HFS.out]; exact hi
      clear h hpg hf hfi hfd hhe hpm hfm hT hi
      by_cases hx : x = 0
      · subst hx
        have HPU : Hid (S.revict bad m = (0, { T with fs := T.fs.set i Fm.nil })) := by show _ = _; rw [HPU0.out, if_neg (by simp), HFS.out]
        clear HPU0
        go_enter Try.func22, Try.ntmps22
        go_upto_region 7 with (first
          | (go_at_call 42; refine HFI.out.mono ?_; rintro e w' ⟨rfl, hw⟩; have hw := hw.symm; subst hw)
          | (go_at_call 44; refine HW.out.mono ?_; rintro e w3 ⟨rfl, h3⟩))
        obtain ⟨fp3, ⟨cE, cG, dx3, fx3, fov3, hfp3, h3⟩, hO3, hF3⟩ := h3
        subst hfp3
        have c1 := h3.c1
        have hi64 := h3.f2
        obtain ⟨w5, q1, q2, q3⟩ := h3.storeAll i hiT Fm.nil
        obtain ⟨N, hN⟩ : ∃ N, T.fs.length = N := ⟨_, rfl⟩
        rw [hN] at c1 hiT hi64
        have HST : Hid ((Instr.storeAt 63 (.pointer (some ⟨gF, i * 6, none⟩)) (.agg #[.int .i64 (-1), .string ⟨#[]⟩, .bool false, .bool false, .int .i64 0, .int .i64 0])).run Try.prog w3 = .ok () w5) := q1
        have HO5 : Hid (Off (RefFp r gD gF fov3) w3 w5) := q3.mono (fun k hk => by simp at hk; subst hk; simp [RefFp])
        have H5 := hide q2
        have HR3 := hide (And.intro hO3 hF3)
        clear q1 q2 q3 h3 hO3 hF3 hN HFI HW
        go_wp2_with (refine wpList_store_in rfl 63 _ _ rfl rfl gF (i * 6) [.int .i64 (-1), .string ⟨#[]⟩, .bool false, .bool false, .int .i64 0, .int .i64 0] w5 rfl rfl HST.out ?_)
        go_ret
        rw [HPU.out]
        exact ⟨rfl, RefTo.more (RefFp r gD gF fov3) HR3.out.1 HR3.out.2 (H5.out.to HO5.out)⟩
      · have hxb : (x != 0) = true := by simpa using hx
        have HPU : Hid (S.revict bad m = (x, T)) := by show _ = _; rw [HPU0.out, if_pos (by simpa using hx)]
        clear HPU0
        go_enter Try.func22, Try.ntmps22
        go_wp2_with (first
          | (go_at_call 42; refine HFI.out.mono ?_; rintro e w' ⟨rfl, hw⟩; have hw := hw.symm; subst hw)
          | (go_at_call 44; refine HW.out.mono ?_; rintro e w3 ⟨rfl, h3⟩))
        go_ret
        rw [HPU.out]
        exact ⟨rfl, h3⟩
end
end Go.Proofs.Ytifoafiidplpiaa
