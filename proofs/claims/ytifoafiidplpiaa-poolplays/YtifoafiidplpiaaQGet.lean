/- The document's pool: Get, Put, Evict. -/
import Derived.Test.YtifoafiidplpiaaQFree
import Derived.Deep.CutBlock
import Derived.Deep.DeepCutAuto
namespace Go.Proofs.Ytifoafiidplpiaa
open Go.RowKit
set_option linter.unusedVariables false
set_option linter.unusedSimpArgs false

theorem op_build63 (ρ : Operand → Value) (o : Oper) (x y : Operand) (ho : o.op = .build 63 #[(0, x), (1, y)]) (a : Int) (b : ByteArray) (hx : ρ x = .int .i64 a) (hy : ρ y = .string b) {w : World} : (execOp ρ o).run Try.prog w = .ok (.value (.agg #[.int .i64 a, .string b, .bool false, .bool false, .int .i64 0, .int .i64 0])) w := by
  unfold execOp
  simp only [ho]
  simp [hx, hy]
  kernel_rfl
def Pl.rget (bad : Int) (S : Pl (List Int)) (m : Int) : List UInt8 × Int × Pl (List Int) := if m < 0 ∨ 6 ≤ m then ([], 1, S) else match S.find m with
  | some i => ((S.fs.getD i Fm.nil).bs, 0, { S with fs := S.fs.set i { S.fs.getD i Fm.nil with asked := true } })
  | none => if (S.rfree bad).1 ≠ 0 then ([], (S.rfree bad).1, (S.rfree bad).2.2) else
    ((S.rfree bad).2.2.disk.getD m.toNat [], 0, { (S.rfree bad).2.2 with fs := (S.rfree bad).2.2.fs.set (S.rfree bad).2.1 (Fm.read m ((S.rfree bad).2.2.disk.getD m.toNat [])) })
def Pl.rput (bad : Int) (S : Pl (List Int)) (m : Int) (bs : List UInt8) (lsn : Int) : Int × Pl (List Int) :=
  if m < 0 ∨ 6 ≤ m ∨ lsn < 1 then (1, S) else match S.find m with
    | some i => (0, { S with fs := S.fs.set i ((S.fs.getD i Fm.nil).changed bs lsn) })
    | none => if (S.rfree bad).1 ≠ 0 then ((S.rfree bad).1, (S.rfree bad).2.2) else (0, { (S.rfree bad).2.2 with fs := (S.rfree bad).2.2.fs.set (S.rfree bad).2.1 ((Fm.fresh m).changed bs lsn) })
def Pl.revict (bad : Int) (S : Pl (List Int)) (m : Int) : Int × Pl (List Int) := if m < 0 then (0, S) else match S.find m with
  | none => (0, S)
  | some i => if (S.rwrote bad (S.fs.getD i Fm.nil)).1 ≠ 0 then S.rwrote bad (S.fs.getD i Fm.nil) else (0, { (S.rwrote bad (S.fs.getD i Fm.nil)).2 with fs := S.fs.set i Fm.nil })
theorem rwrote_fs (bad : Int) (S : Pl (List Int)) (f : Fm) : (S.rwrote bad f).2.fs = S.fs ∧ (S.rwrote bad f).2.hand = S.hand := by
  unfold Pl.rwrote
  split
  · split <;> exact ⟨rfl, rfl⟩
  · exact ⟨rfl, rfl⟩
theorem rfree_len (bad : Int) (S : Pl (List Int)) (h : S.hand < S.fs.length) : (S.rfree bad).2.1 < (S.rfree bad).2.2.fs.length := by
  have h1 := pick_len S h
  unfold Pl.rfree
  split
  · show S.pick.1 < (S.pick.2.rwrote bad _).2.fs.length
    rw [(rwrote_fs _ _ _).1, h1.2]
    exact h1.1
  · show S.pick.1 < S.pick.2.fs.length
    rw [h1.2]
    exact h1.1
section
variable {w w' : World} {r gD gF cD cF : Nat} {dx fx : List Value} {fov : Value} {S : Pl (List Int)} {bad : Int} {fp : List Nat}
theorem RefTo.more {w2 : World} {S2 : Pl (List Int)} (fp1 : List Nat) (a2 : Off fp w w') (a3 : ∀ k ∈ fp1, k ∈ fp ∨ w.heap.size ≤ k) (h : RefTo w' w2 r gD gF fp1 S2 bad) : RefTo w w2 r gD gF fp S2 bad := by
  obtain ⟨fp2, b1, b2, b3⟩ := h
  refine ⟨fp2, b1, a2.trans b2 a3, fun k hk => ?_⟩
  rcases b3 k hk with h4 | h4
  · exact a3 k h4
  · have := a2.size; exact .inr (by omega)
set_option maxHeartbeats 2000000 in
set_option maxRecDepth 100000 in
theorem rget_any (h : RefIs w r gD gF cD cF dx fx fov S bad) (m : Int) (hfo : S.fo.length ≤ 100000) (hwr : S.wr ≤ 1000000) (hpg : ∀ f ∈ S.fs, FmOk f) :
    Calls Try.prog 20 #[.pointer (some ⟨r, 0, none⟩), .int .i64 m] w fun e w' => e = .returned (.tuple #[.string (strOf (S.rget bad m).1), .int .i64 (S.rget bad m).2.1]) ∧ RefTo w w' r gD gF (RefFp r gD gF fov) (S.rget bad m).2.2 bad := by
  have c0 := h.c0
  by_cases hin : m < 0 ∨ 6 ≤ m
  · have HGE : Hid (S.rget bad m = ([], 1, S)) := by show _ = _; unfold Pl.rget; rw [if_pos hin]
    have H := hide h
    clear h hpg
    by_cases h0 : m < 0
    · clear hin
      go_enter Try.func20, Try.ntmps20
      go_wp2
      go_ret2
      rw [HGE.out]
      exact ⟨rfl, H.out.to (Off.refl _ _)⟩
    · have h6 : m ≥ 6 := by omega
      clear hin
      go_enter Try.func20, Try.ntmps20
      go_wp2
      go_ret2
      rw [HGE.out]
      exact ⟨rfl, H.out.to (Off.refl _ _)⟩
  · obtain ⟨k, rfl⟩ : ∃ k : Nat, m = (k : Int) := ⟨m.toNat, by omega⟩
    have hk6 : k < 6 := by omega
    have hk6' : ¬ ((k : Int) ≥ 6) := by omega
    have HFI := hide (rfind_any h (k : Int))
    rw [rfind_eq S (k : Int) (by omega)] at HFI
    cases hf : S.find (k : Int) with
    | some i =>
      obtain ⟨f, hfi, hfd, hhe, hpm, hfm, hi⟩ := find_some hf
      have HGE : Hid (S.rget bad (k : Int) = (f.bs, 0, { S with fs := S.fs.set i { f with asked := true } })) := by show _ = _; unfold Pl.rget; rw [if_neg hin, hf]; simp only [hfd]
      rw [hf] at HFI
      have HFI : Hid (Calls Try.prog 42 #[.pointer (some ⟨r, 0, none⟩), .int .i64 (k : Int)] w fun e w' => e = .returned (.int .i64 (i : Int)) ∧ w' = w) := HFI
      have c1 := h.c1
      obtain ⟨_, d0, d1, d2, d3, d4, d5⟩ := h.cells i f hfi
      have z3 := h.fzF (i * 6 + 3)
      have H1 := hide (h.mark i f hfi true)
      have hi64 := h.f2
      have e1 := H1.out.c1
      have e2 := (H1.out.cells i _ (List.getElem?_set_self hi)).2.2.1
      simp only [List.length_set] at e1
      obtain ⟨N, hN⟩ : ∃ N, S.fs.length = N := ⟨_, rfl⟩
      rw [hN] at c1 hi e1 hi64
      have HO1 : Hid (Off (RefFp r gD gF fov) w (w.setCell ⟨gF, i * 6 + 3, none⟩ (.bool true))) := (Off.refl _ _).setCell _ _ (.inl (by simp [RefFp]))
      clear h hpg hf hfi hfd hhe hpm hfm hin d0 d1 d2 d4 d5 hN
      go_enter Try.func20, Try.ntmps20
      go_upto_region 11 with (go_at_call 42; refine HFI.out.mono ?_; rintro e w' ⟨rfl, hw⟩; have hw := hw.symm; subst hw)
      clear d3 z3 c1 c0 HFI
      generalize w.setCell ⟨gF, i * 6 + 3, none⟩ (.bool true) = W1 at *
      go_wp2
      go_ret2
      rw [HGE.out]
      exact ⟨rfl, H1.out.to HO1.out⟩
    | none =>
      have HFR := hide (rfree_any h hfo hwr hpg)
      have hlen := rfree_len bad S h.hand
      have HGE0 : Hid (S.rget bad (k : Int) = if (S.rfree bad).1 ≠ 0 then ([], (S.rfree bad).1, (S.rfree bad).2.2) else ((S.rfree bad).2.2.disk.getD k [], 0, { (S.rfree bad).2.2 with fs := (S.rfree bad).2.2.fs.set (S.rfree bad).2.1 (Fm.read (k : Int) ((S.rfree bad).2.2.disk.getD k [])) })) := by show _ = _; unfold Pl.rget; rw [if_neg hin, hf]; rfl
      rw [hf] at HFI
      have HFI : Hid (Calls Try.prog 42 #[.pointer (some ⟨r, 0, none⟩), .int .i64 (k : Int)] w fun e w' => e = .returned (.int .i64 (-1)) ∧ w' = w) := HFI
      obtain ⟨⟨x, i, T⟩, hT⟩ : ∃ T, S.rfree bad = T := ⟨_, rfl⟩
      rw [hT] at HFR HGE0 hlen
      have HFR : Hid (Calls Try.prog 43 #[.pointer (some ⟨r, 0, none⟩)] w fun e w' => e = .returned (.tuple #[.int .i64 (i : Int), .int .i64 x]) ∧ RefTo w w' r gD gF (RefFp r gD gF fov) T bad) := HFR
      have hlen : i < T.fs.length := hlen
      clear h hpg hf hin hT
      by_cases hx : x = 0
      · subst hx
        have HGE : Hid (S.rget bad (k : Int) = (T.disk.getD k [], 0, { T with fs := T.fs.set i (Fm.read (k : Int) (T.disk.getD k [])) })) := by show _ = _; rw [HGE0.out, if_neg (by simp)]
        clear HGE0
        go_enter Try.func20, Try.ntmps20
        go_upto_region 9 with (first
          | (go_at_call 42; refine HFI.out.mono ?_; rintro e w' ⟨rfl, hw⟩; have hw := hw.symm; subst hw)
          | (go_at_call 43; refine HFR.out.mono ?_; rintro e w3 ⟨rfl, h3⟩))
        obtain ⟨fp3, ⟨cE, cG, dx3, fx3, fov3, hfp3, h3⟩, hO3, hF3⟩ := h3
        subst hfp3
        clear HFI HFR c0
        have b0 := h3.c0
        have b1 := h3.c1
        have bd := h3.dcell k hk6
        have hi64 := h3.f2
        have hiN := hlen
        obtain ⟨N, hN⟩ : ∃ N, T.fs.length = N := ⟨_, rfl⟩
        rw [hN] at b1 hiN hi64
        obtain ⟨bs, hbs⟩ : ∃ bs, T.disk.getD k [] = bs := ⟨_, rfl⟩
        rw [hbs] at bd HGE
        obtain ⟨B, hB⟩ : ∃ B, strOf bs = B := ⟨_, rfl⟩
        rw [hB] at bd
        have h3d : RefIs w3.drew r gD gF cE cG dx3 fx3 fov3 T bad := h3.stay (fun k hk => rfl)
        obtain ⟨w5, q1, q2, q3⟩ := h3d.storeAll i hlen { Fm.read (k : Int) bs with asked := false }
        have HST : Hid ((Instr.storeAt 63 (.pointer (some ⟨gF, i * 6, none⟩)) (.agg #[.int .i64 (k : Int), .string B, .bool false, .bool false, .int .i64 0, .int .i64 0])).run Try.prog w3.drew = .ok () w5) := by rw [← hB]; exact q1
        have HS5 : Hid ((w5.cell? ⟨r, 0, none⟩ = some (.slice (some ⟨gD, 0, none⟩) 6 cE) ∧ w5.cell? ⟨r, 1, none⟩ = some (.slice (some ⟨gF, 0, none⟩) N cG)) ∧ w5.cell? ⟨gD, k, none⟩ = some (.string B)) := by
          have e1 := q2.c1
          simp only [List.length_set] at e1
          rw [hN] at e1
          have e2 := q2.dcell k hk6
          rw [show ({ T with fs := T.fs.set i { Fm.read (k : Int) bs with asked := false } } : Pl (List Int)).disk.getD k [] = bs from hbs, hB] at e2
          exact ⟨⟨q2.c0, e1⟩, e2⟩
        have hf5 := List.getElem?_set_self (l := T.fs) (i := i) (a := { Fm.read (k : Int) bs with asked := false }) hlen
        have HO5 : Hid (Off (RefFp r gD gF fov3) w3 w5) := ((Off.refl _ w3).drew).trans q3 (fun k hk => by simp at hk; subst hk; exact .inl (by simp [RefFp]))
        have H5 := hide q2
        have HF5 := hide hf5
        have HR3 := hide (And.intro hO3 hF3)
        have HN := hide hN
        have HB := hide hB
        clear q1 q2 q3 h3 h3d hf5 hO3 hF3 hN hB hbs
        refine wp_region_held_drew (S := fun w' => (w'.cell? ⟨r, 0, none⟩ = some (.slice (some ⟨gD, 0, none⟩) 6 cE) ∧ w'.cell? ⟨r, 1, none⟩ = some (.slice (some ⟨gF, 0, none⟩) N cG)) ∧ w'.cell? ⟨gD, k, none⟩ = some (.string B)) (by kernel_rfl) ⟨⟨b0, b1⟩, bd⟩ (fun hH => ?_)
        refine take_to 0 34 (.pointer (some ⟨r, 0, none⟩)) rfl (by kernel_rfl) (by kernel_rfl) (by kernel_rfl) (fun _ _ _ h => h) rfl (by rfl) (fun w hw => by rfl) hH ?_
        simp only [Act.put, List.setIfInBounds_toArray, List.set_cons_zero, List.set_cons_succ]
        refine take_to 1 35 (.pointer (some ⟨r, 0, none⟩)) rfl (by kernel_rfl) (by kernel_rfl) (by kernel_rfl) (fun _ _ _ h => h) rfl (by rfl) (fun w hw => by rfl) hH ?_
        simp only [Act.put, List.setIfInBounds_toArray, List.set_cons_zero, List.set_cons_succ]
        refine take_to 2 36 (.pointer (some ⟨r, 1, none⟩)) rfl (by kernel_rfl) (by kernel_rfl) (by kernel_rfl) (fun _ _ _ h => h) rfl (by rfl) (fun w hw => by rfl) hH ?_
        simp only [Act.put, List.setIfInBounds_toArray, List.set_cons_zero, List.set_cons_succ]
        refine take_to 3 37 (.slice (some ⟨gF, 0, none⟩) N cG) rfl (by kernel_rfl) (by kernel_rfl) (by kernel_rfl) (fun _ _ _ h => h) rfl (by rfl) (fun w hw => op_load _ _ 58 (.tmp 36) rfl (.pointer (some ⟨r, 1, none⟩)) _ rfl (run_loadAny w r (1) 58 _ Try.isAgg58 hw.1.2)) hH ?_
        simp only [Act.put, List.setIfInBounds_toArray, List.set_cons_zero, List.set_cons_succ]
        refine take_to 4 38 (.int .i64 (i : Int)) rfl (by kernel_rfl) (by kernel_rfl) (by kernel_rfl) (fun _ _ _ h => h) rfl (by rfl) (fun w hw => by rfl) hH ?_
        simp only [Act.put, List.setIfInBounds_toArray, List.set_cons_zero, List.set_cons_succ]
        refine take_to 5 39 (.int .i64 (k : Int)) rfl (by kernel_rfl) (by kernel_rfl) (by kernel_rfl) (fun _ _ _ h => h) rfl (by rfl) (fun w hw => by rfl) hH ?_
        simp only [Act.put, List.setIfInBounds_toArray, List.set_cons_zero, List.set_cons_succ]
        refine take_to 6 40 (.pointer (some ⟨r, 0, none⟩)) rfl (by kernel_rfl) (by kernel_rfl) (by kernel_rfl) (fun _ _ _ h => h) rfl (by rfl) (fun w hw => by rfl) hH ?_
        simp only [Act.put, List.setIfInBounds_toArray, List.set_cons_zero, List.set_cons_succ]
        refine take_to 7 41 (.pointer (some ⟨r, 0, none⟩)) rfl (by kernel_rfl) (by kernel_rfl) (by kernel_rfl) (fun _ _ _ h => h) rfl (by rfl) (fun w hw => by rfl) hH ?_
        simp only [Act.put, List.setIfInBounds_toArray, List.set_cons_zero, List.set_cons_succ]
        refine take_to 8 42 (.pointer (some ⟨r, 0, none⟩)) rfl (by kernel_rfl) (by kernel_rfl) (by kernel_rfl) (fun _ _ _ h => h) rfl (by rfl) (fun w hw => by rfl) hH ?_
        simp only [Act.put, List.setIfInBounds_toArray, List.set_cons_zero, List.set_cons_succ]
        refine take_to 9 43 (.slice (some ⟨gD, 0, none⟩) 6 cE) rfl (by kernel_rfl) (by kernel_rfl) (by kernel_rfl) (fun _ _ _ h => h) rfl (by rfl) (fun w hw => op_load _ _ 57 (.tmp 42) rfl (.pointer (some ⟨r, 0, none⟩)) _ rfl (run_loadAny w r (0) 57 _ Try.isAgg57 hw.1.1)) hH ?_
        simp only [Act.put, List.setIfInBounds_toArray, List.set_cons_zero, List.set_cons_succ]
        refine take_to 10 44 (.int .i64 (k : Int)) rfl (by kernel_rfl) (by kernel_rfl) (by kernel_rfl) (fun _ _ _ h => h) rfl (by rfl) (fun w hw => by rfl) hH ?_
        simp only [Act.put, List.setIfInBounds_toArray, List.set_cons_zero, List.set_cons_succ]
        refine take_to 11 45 (.pointer (some ⟨gD, k, none⟩)) rfl (by kernel_rfl) (by kernel_rfl) (by kernel_rfl) (fun _ _ _ h => h) rfl (by rfl) (fun w hw => op_index _ _ 57 (.tmp 43) (.tmp 44) rfl _ _ _ rfl rfl (run_index57 w gD _ _ _ hk6)) hH ?_
        simp only [Act.put, List.setIfInBounds_toArray, List.set_cons_zero, List.set_cons_succ]
        refine take_to 12 46 (.string B) rfl (by kernel_rfl) (by kernel_rfl) (by kernel_rfl) (fun _ _ _ h => h) rfl (by rfl) (fun w hw => op_load _ _ 9 (.tmp 45) rfl (.pointer (some ⟨gD, k, none⟩)) _ rfl (run_loadAny w gD (k) 9 _ Try.isAgg9 hw.2)) hH ?_
        simp only [Act.put, List.setIfInBounds_toArray, List.set_cons_zero, List.set_cons_succ]
        refine take_to 13 47 (.agg #[.int .i64 (k : Int), .string B, .bool false, .bool false, .int .i64 0, .int .i64 0]) rfl (by kernel_rfl) (by kernel_rfl) (by kernel_rfl) (fun _ _ _ h => h) rfl (by rfl) (fun w hw => op_build63 _ _ (.tmp 39) (.tmp 46) rfl _ _ rfl rfl) hH ?_
        simp only [Act.put, List.setIfInBounds_toArray, List.set_cons_zero, List.set_cons_succ]
        refine take_to 14 48 (.pointer (some ⟨gF, i * 6, none⟩)) rfl (by kernel_rfl) (by kernel_rfl) (by kernel_rfl) (fun _ _ _ h => h) rfl (by rfl) (fun w hw => op_index _ _ 58 (.tmp 37) (.tmp 38) rfl _ _ _ rfl rfl (run_index58 w gF _ _ _ hiN)) hH ?_
        simp only [Act.put, List.setIfInBounds_toArray, List.set_cons_zero, List.set_cons_succ]
        refine step_store_to 15 w5 rfl (by kernel_rfl) rfl (by rfl) 63 (.tmp 48) (.tmp 47) rfl _ _ rfl rfl HST.out HS5.out ?_
        refine wpAnyH_done (by kernel_rfl) ?_ _
        have a1 := HS5.out.1.2
        obtain ⟨_, _, _, _, a3, _⟩ := H5.out.cells i _ HF5.out
        have z3 := H5.out.fzF (i * 6 + 3)
        have H6 := hide (H5.out.mark i _ HF5.out true)
        have e1 := H6.out.c1
        have e2 := (H6.out.cells i _ (List.getElem?_set_self (by simpa using hlen))).2.2.1
        simp only [List.length_set] at e1
        rw [HN.out] at e1
        have HO6 : Hid (Off (RefFp r gD gF fov3) w3 (w5.setCell ⟨gF, i * 6 + 3, none⟩ (.bool true))) := HO5.out.setCell _ _ (.inl (by simp [RefFp]))
        clear hH bd b0 b1
        go_upto_region 11 with fail
        clear a1 a3 z3
        generalize w5.setCell ⟨gF, i * 6 + 3, none⟩ (.bool true) = W6 at *
        go_wp2
        go_ret2
        rw [HGE.out]
        refine ⟨rfl, RefTo.more (RefFp r gD gF fov3) HR3.out.1 HR3.out.2 ?_⟩
        have h6 := H6.out
        simp only [List.set_set] at h6
        exact h6.to HO6.out
      · have hxb : (x != 0) = true := by simpa using hx
        have HGE : Hid (S.rget bad (k : Int) = ([], x, T)) := by show _ = _; rw [HGE0.out, if_pos (by simpa using hx)]
        clear HGE0
        go_enter Try.func20, Try.ntmps20
        go_wp2_with (first
          | (go_at_call 42; refine HFI.out.mono ?_; rintro e w' ⟨rfl, hw⟩; have hw := hw.symm; subst hw)
          | (go_at_call 43; refine HFR.out.mono ?_; rintro e w3 ⟨rfl, h3⟩))
        go_ret2
        rw [HGE.out]
        exact ⟨rfl, h3⟩
end
end Go.Proofs.Ytifoafiidplpiaa
