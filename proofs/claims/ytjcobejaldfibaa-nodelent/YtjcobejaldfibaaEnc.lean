/- Encode of a leaf. -/
import Derived.Test.YtjcobejaldfibaaApp
import Derived.Test.YtjcobejaldfibaaSnd
namespace Go.Proofs.Ytjcobejaldfibaa
open Go.RowKit
set_option linter.unusedVariables false
set_option linter.unusedSimpArgs false

structure Sd (N : Nd) : Prop where
  mat : N.matched = true
  key : ∀ k, (N.keys.getD k []).length ≤ 100
  val : ∀ k, (N.vals.getD k []).length ≤ 100
  kid : ∀ k, 0 ≤ N.kids.getD k 0 ∧ N.kids.getD k 0 ≤ 4294967295
  nxt : 0 ≤ N.next ∧ N.next ≤ 4294967295
  ris : ∀ k, 0 < k → k < N.keys.length → blt (N.keys.getD (k - 1) []) (N.keys.getD k []) = true
  inn : N.leaf = true ∨ N.next = 0
theorem sd_of {N : Nd} (h : N.sound = true) : Sd N := by
  simp only [Nd.sound, Bool.and_eq_true, Bool.or_eq_true, decide_eq_true_eq] at h
  obtain ⟨⟨⟨⟨⟨h1, h2⟩, h3⟩, h4⟩, h5⟩, h6⟩ := h
  rw [upTo_iff] at h2 h3 h4
  refine ⟨h1, fun k => ?_, fun k => ?_, fun k => ?_, ?_, fun k hk hkl => ?_, h6⟩
  · by_cases hk : k < N.keys.length
    · have := h2 k hk
      simp only [okK, Bool.and_eq_true, decide_eq_true_eq] at this
      exact this.1
    · simp [Nat.le_of_not_lt hk]
  · by_cases hk : k < N.vals.length
    · have := h3 k hk
      simpa only [okV, decide_eq_true_eq] using this
    · simp [Nat.le_of_not_lt hk]
  · by_cases hk : k < N.kids.length
    · have := h4 k hk
      simpa only [okI, place, Bool.and_eq_true, decide_eq_true_eq] using this
    · simp [Nat.le_of_not_lt hk]
  · simpa only [place, Bool.and_eq_true, decide_eq_true_eq] using h5
  · have := h2 k hkl
    simp only [okK, Bool.and_eq_true, Bool.or_eq_true, decide_eq_true_eq] at this
    exact this.2.resolve_left (by omega)
theorem sd_size {N : Nd} (h : Sd N) (hf : Fits N) : N.size ≤ 4611686018427387904 := by
  have hk := hf.keys
  have : sumTo N.keys.length (sizeAt N) ≤ N.keys.length * 300 := sumTo_le (fun i hi => by
    have h1 := h.key i
    have h2 := h.val i
    unfold sizeAt
    split
    · split <;> omega
    · omega)
  unfold Nd.size Nd.base
  split <;> omega
theorem size_keys (N : Nd) : 4 * N.keys.length ≤ N.size := by
  have : ∀ n, 4 * n ≤ sumTo n (sizeAt N) := fun n => by
    induction n with
    | zero => simp [sumTo]
    | succ n ih =>
      rw [sumTo_succ]
      have : 4 ≤ sizeAt N n := by unfold sizeAt; split <;> omega
      omega
  have := this N.keys.length
  unfold Nd.size
  omega
structure EncEnd (w : World) (N : Nd) (e : Ending) (w' : World) : Prop where
  below : Below w.heap.size w w'
  out : (N.sound = false ∧ e = .returned (.tuple #[.slice none 0 0, .int .i64 1])) ∨ (N.sound = true ∧ 504 < N.size ∧ e = .returned (.tuple #[.slice none 0 0, .int .i64 60])) ∨ (N.sound = true ∧ N.size ≤ 504 ∧ ∃ v, e = .returned (.tuple #[v, .int .i64 0]) ∧ w'.ownsRow w.heap.size 5 1 v N.page.length (secCells N.page))
theorem make504 (w : World) : (Instr.makeSlice 28 (.int .i64 0) (.int .i64 504)).run Try.prog w = .ok (.slice (some ⟨w.heap.size, 0, none⟩) 0 504) (w.alloc (.cells (Array.replicate 504 (.int .u8 0)) 5)) := by
  obtain ⟨i, hi, hz, hsz, hby⟩ := Try.info5'
  have h := run_make (P := Try.prog) w 28 5 i _ Try.underlying28 hi hz .i64 .i64 0 504 (by omega) (by omega) (by rw [hby]; omega) (by omega)
  have e : madeCells (Value.cells (.int .u8 0)) 504 = Array.replicate 504 (.int .u8 0) := by
    have := made_rep (.int .u8 0) 504
    rw [List.toArray_replicate] at this
    exact this
  rw [h, hsz]
  rw [show (504 : Int).toNat * 1 = 504 from rfl, e]
  rfl
theorem bts504 {w0 w : World} (h : Below w0.heap.size w0 w) : Bts w0 (w.alloc (.cells (Array.replicate 504 (.int .u8 0)) 5)) (.slice (some ⟨w.heap.size, 0, none⟩) 0 504) [] :=
  ⟨h.alloc h.size _, rfl, .inr ⟨w.heap.size, 504, _, rfl, h.size, heap_alloc_new w _, by simp, by simp only [maxLen]; omega, by simp, by simp [secCells]⟩⟩
theorem be1_kind (b : Bool) : be 1 (if b then 1 else 2) = [if b then (1 : UInt8) else 2] := by cases b <;> rfl
set_option maxHeartbeats 1000000 in
theorem encode_leaf {w : World} {N : Nd} {vk vv vi : Value} (h : NdAt w N vk vv vi) (hf : Fits N) (hl : N.leaf = true) :
    Calls Try.prog 15 #[.agg #[.bool true, vk, vv, vi, .int .i64 N.next]] w (EncEnd w N) := by
  have HS : Hid (∀ W, Below w.heap.size w W → Calls Try.prog 33 #[.agg #[.bool true, vk, vv, vi, .int .i64 N.next]] W fun e w' => e = .returned (.bool N.sound) ∧ Below W.heap.size W w') := fun W hW => by
    have := sound_any (h.belowW hW) hf
    rw [hl] at this
    exact this
  have HZ : Hid (N.sound = true → ∀ W, Below w.heap.size w W → Calls Try.prog 23 #[.agg #[.bool true, vk, vv, vi, .int .i64 N.next]] W fun e w' => e = .returned (.int .i64 (N.size : Int)) ∧ Below W.heap.size W w') := fun hs W hW => by
    have := size_any (h.belowW hW) hf (sd_size (sd_of hs) hf)
    rw [hl] at this
    exact this
  obtain ⟨ak, ck, rfl, _, _⟩ := h.keys.len
  obtain ⟨av, cv, rfl, _, _⟩ := h.vals.len
  obtain ⟨ai, ci, rfl, _, _⟩ := h.kids.len
  have HB0 : Hid (Below w.heap.size w (w.alloc (.cells #[.bool true, .slice ak N.keys.length ck, .slice av N.vals.length cv, .slice ai N.kids.length ci, .int .i64 N.next] 26))) := (Below.refl _ _).alloc (Nat.le_refl _) _
  have HX0 := hide (Box.new (t := 26) w (.bool true) (.slice ak N.keys.length ck) (.slice av N.vals.length cv) (.slice ai N.kids.length ci) (.int .i64 N.next))
  cases hsd : N.sound with
  | false =>
    rw [hsd] at HS
    clear h hf
    generalize N.keys.length = nk at *
    generalize N.vals.length = nv at *
    generalize N.kids.length = ni at *
    generalize N.next = x at *
    go_enter Try.func15, Try.ntmps15
    go_upto_region 1 with fail
    generalize (w.alloc (.cells #[.bool true, .slice ak nk ck, .slice av nv cv, .slice ai ni ci, .int .i64 x] 26)) = W0 at *
    obtain ⟨k0, k1, k2, k3, k4, f0, f1, f2, f3, f4⟩ := HX0.out.cells
    go_wp2_with fail
    refine (HS.out W0 HB0.out).mono ?_
    rintro e W1 ⟨rfl, hb1⟩
    have HB1 := hide (HB0.out.trans (hb1.mono HB0.out.size))
    clear hb1
    go_wp2
    refine bodyPost_ret (results_tmp2 rfl _ _ _) rfl ?_
    exact ⟨HB1.out, .inl ⟨hsd, rfl⟩⟩
  | true =>
    rw [hsd] at HS
    have HZ := hide (HZ.out hsd)
    have S := sd_of hsd
    have hszk := size_keys N
    have HSZ2 := hide (sd_size S hf)
    obtain ⟨nx, hnx⟩ : ∃ nx : Nat, N.next = (nx : Int) := ⟨N.next.toNat, by have := S.nxt; omega⟩
    have hnxl : nx < 4294967296 := by have := S.nxt; omega
    have hvl : N.vals.length = N.keys.length := by have := S.mat; simp [Nd.matched, hl] at this; exact this.1
    have HPG : Hid (N.page = N.body ++ List.replicate (504 - N.body.length) 0) := rfl
    have HBL : Hid (N.body.length = N.size) := length_body S.mat
    have HBD : Hid (N.body = be 1 1 ++ be 2 N.keys.length ++ be 4 nx ++ flatTo N.keys.length (encAt N)) := by
      unfold Hid Nd.body Nd.head Nd.first Nd.kind
      rw [hl, hnx]
      simp [be]
    have HADD : Hid (504 < N.size ∨ ∀ (W : World) (u : Value), Bts w W u (be 1 1 ++ be 2 N.keys.length ++ be 4 nx) → Calls Try.prog 36 #[u, .agg #[.bool true, .slice ak N.keys.length ck, .slice av N.vals.length cv, .slice ai N.kids.length ci, .int .i64 N.next]] W fun e w' => ∃ u', e = .returned u' ∧ Bts w w' u' (be 1 1 ++ be 2 N.keys.length ++ be 4 nx ++ flatTo N.keys.length (encAt N)) ∧ Oth 5 W w') := by
      by_cases hz : 504 < N.size
      · exact .inl hz
      · refine .inr (fun W u hB => addPairs_any h hB hl hvl (fun k => by have := S.key k; omega) (fun k => by have := S.val k; omega) hf ?_)
        have e := HBL.out
        rw [HBD.out, List.length_append, length_flatTo] at e
        omega
    have HM5 := hide make504
    rw [hnx] at HS HZ HX0 HADD HB0 ⊢
    clear h hf S hnx
    generalize hnk : N.keys.length = nk at *
    generalize N.vals.length = nv at *
    generalize N.kids.length = ni at *
    generalize hsz : N.size = sz at *
    have HSZ := hide hsz
    clear hsz hnk hvl
    have hszb := HSZ2.out
    go_enter Try.func15, Try.ntmps15
    go_upto_region 1 with fail
    generalize (w.alloc (.cells #[.bool true, .slice ak nk ck, .slice av nv cv, .slice ai ni ci, .int .i64 (nx : Int)] 26)) = W0 at *
    obtain ⟨k0, k1, k2, k3, k4, f0, f1, f2, f3, f4⟩ := HX0.out.cells
    go_wp2_with fail
    refine (HS.out W0 HB0.out).mono ?_
    rintro e W1 ⟨rfl, hb1⟩
    have HB1 := hide (HB0.out.trans (hb1.mono HB0.out.size))
    have HX1 := hide (HX0.out.belowW hb1)
    clear hb1 k0 k1 k2 k3 k4 f0 f1 f2 f3 f4 HX0 HB0 HS
    obtain ⟨k0, k1, k2, k3, k4, f0, f1, f2, f3, f4⟩ := HX1.out.cells
    go_wp2_with fail
    refine (HZ.out W1 HB1.out).mono ?_
    rintro e W2 ⟨rfl, hb2⟩
    have HB2 := hide (HB1.out.trans (hb2.mono HB1.out.size))
    have HX2 := hide (HX1.out.belowW hb2)
    clear hb2 k0 k1 k2 k3 k4 f0 f1 f2 f3 f4 HX1 HB1 HZ
    obtain ⟨k0, k1, k2, k3, k4, f0, f1, f2, f3, f4⟩ := HX2.out.cells
    by_cases hz : 504 < sz
    · have hz' : (504 : Int) < (sz : Int) := by omega
      go_wp2
      refine bodyPost_ret (results_tmp2 rfl _ _ _) rfl ?_
      exact ⟨HB2.out, .inr (.inl ⟨hsd, by rw [HSZ.out]; exact hz, rfl⟩)⟩
    · have hz' : ¬ ((504 : Int) < (sz : Int)) := by omega
      have HADD := hide (HADD.out.resolve_left hz)
      have hmk := HM5.out
      have hnk2 : nk < 65536 := by omega
      have HB3 := hide (bts504 HB2.out)
      have HX3 := hide (HX2.out.alloc (.cells (Array.replicate 504 (.int .u8 0)) 5))
      have HKN := hide (fun W => kind_any true ak av ai nk nv ni ck cv ci (nx : Int) W)
      go_upto_region 6 with fail
      clear k0 k1 k2 k3 k4 f0 f1 f2 f3 f4 HX2
      generalize W2.alloc (.cells (Array.replicate 504 (.int .u8 0)) 5) = W3 at *
      obtain ⟨k0, k1, k2, k3, k4, f0, f1, f2, f3, f4⟩ := HX3.out.cells
      go_wp2_with fail
      refine (HKN.out W3).mono ?_
      rintro e W4 ⟨rfl, hb4⟩
      have HB4 := hide (HB3.out.belowW hb4)
      have HX4 := hide (HX3.out.belowW hb4)
      clear hb4 k0 k1 k2 k3 k4 f0 f1 f2 f3 f4 HX3 HB3
      have HA1 := hide (addN1_any HB4.out 1 (by omega) (by simp))
      go_wp2_with fail
      refine HA1.out.mono ?_
      rintro e W5 ⟨u5, rfl, hB5, hO5⟩
      have HX5 := hide (HX4.out.oth hO5 (by decide))
      have HB5 := hide hB5
      clear hB5 hO5 HA1 HX4 HB4
      rw [List.nil_append] at HB5
      obtain ⟨k0, k1, k2, k3, k4, f0, f1, f2, f3, f4⟩ := HX5.out.cells
      have HA2 := hide (addN2_any HB5.out nk hnk2 (by simp [length_be]))
      go_wp2_with fail
      refine HA2.out.mono ?_
      rintro e W6 ⟨u6, rfl, hB6, hO6⟩
      have HX6 := hide (HX5.out.oth hO6 (by decide))
      have HB6 := hide hB6
      clear hB6 hO6 HA2 HX5 HB5 k0 k1 k2 k3 k4 f0 f1 f2 f3 f4
      obtain ⟨k0, k1, k2, k3, k4, f0, f1, f2, f3, f4⟩ := HX6.out.cells
      have HA4 := hide (addN4_any HB6.out nx hnxl (by simp [length_be]))
      go_wp2_with fail
      refine HA4.out.mono ?_
      rintro e W7 ⟨u7, rfl, hB7, hO7⟩
      have HX7 := hide (HX6.out.oth hO7 (by decide))
      have HB7 := hide hB7
      clear hB7 hO7 HA4 HX6 HB6 k0 k1 k2 k3 k4 f0 f1 f2 f3 f4
      obtain ⟨k0, k1, k2, k3, k4, f0, f1, f2, f3, f4⟩ := HX7.out.cells
      go_wp2_with fail
      refine (HADD.out W7 u7 HB7.out).mono ?_
      rintro e W8 ⟨u8, rfl, hB8, hO8⟩
      have HB8 := hide hB8
      clear hB8 hO8 HX7 HB7 k0 k1 k2 k3 k4 f0 f1 f2 f3 f4
      rw [← HBD.out] at HB8
      obtain ⟨a8, c8, e8, _, _⟩ := HB8.out.sl.len
      subst e8
      have hbl := HBL.out
      generalize hbd : N.body.length = bl at *
      have HBD2 := hide hbd
      have hsub : (504 : Int) - (bl : Int) = ((504 - bl : Nat) : Int) := by omega
      clear hbd
      subst hbl
      generalize hdd : 504 - bl = dd at *
      have hdd2 : dd ≤ 504 := by omega
      have HDD := hide hdd
      clear hdd
      go_wp2_with (refine wpList_append_zerosB rfl (.tmp 33) (.tmp 36) rfl w _ _ dd rfl rfl HB8.out (by rw [HBD2.out]; omega) ?_; intro u9 W9 hB9 hg9)
      refine bodyPost_ret (results_tmp2 rfl _ _ _) rfl ?_
      refine ⟨hB9.below, .inr (.inr ⟨hsd, by rw [HSZ.out]; omega, _, rfl, ?_⟩)⟩
      have e : N.page = N.body ++ List.replicate dd 0 := HPG.out
      rw [e]
      exact hB9.own
end Go.Proofs.Ytjcobejaldfibaa
