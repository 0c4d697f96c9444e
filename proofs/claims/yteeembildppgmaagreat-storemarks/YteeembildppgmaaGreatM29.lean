/- A part of it: SBkA SAre SNum SMast. -/
import Derived.Test.YteeembildppgmaaGreatM27
import Derived.Test.YteeembildppgmaaGreatM28
import Derived.Test.YteeembildppgmaaGreatM25
namespace Go.Proofs.YteeembildppgmaaGreat
open Go.RowKit
set_option linter.unusedVariables false
set_option linter.unusedSimpArgs false
section
variable {w0 w w' : World} {s : Nat} {c : Cf} {xs tb : List Nat} {ov : Value} {ps : List Nat} {uvs : List Value} {S : St} {V : Nat → List UInt8}
set_option maxHeartbeats 2000000 in
set_option maxRecDepth 100000 in
theorem back_one (h : StIs w0 w s c xs tb ov ps uvs S) {T : Tn} (h1 : S.txs = [T]) (us0 us : List Up) (hups : T.ups = us0 ++ us) (hi : PInv c.n S.pool V) (hok : UpsOk c.n us) (hroom : resU us ≤ S.R.room) (hid : T.id ≤ 1000000000000) (hla : T.last ≤ 4398046511104) (hwr : S.pool.wr + 2 * us.length ≤ 1000000) (hfew : T.ups.length ≤ 1000000000) (n : Int) (hn : n = (T.id : Int))
    (rs : List Enc.Rc) (hrs : S.R.held = encs rs) (hgd : ∀ R ∈ rs, R.good) (j : Nat) (R : Enc.Rc) (hj : rs[j]? = some R) (hR : R.txn = (T.id : Int)) (m : Nat) (hm : m = S.R.start + (encs (rs.take j)).length + 1) (hu0 : ∀ u ∈ us0, u.lsn ≤ m) (hu1 : ∀ u ∈ us, m < u.lsn) :
    Calls Tryz.prog 14 #[.pointer (some ⟨s, 0, none⟩), .int .i64 n, .int .i64 (m : Int)] w fun e w' => e = .returned (.int .i64 0) ∧ ∃ pl, StAt w0 w' s c xs { S with pool := pl, txs := [⟨T.id, T.begin, rbL us.reverse S.R.tail T.last, us0⟩] } ∧ PInv c.n pl (rbV us.reverse S.R.tail V) ∧ pl.wr ≤ S.pool.wr + 2 * us.length ∧ pl.fs.length = S.pool.fs.length ∧
      RS { S.R with held := S.R.held ++ rbH us.reverse T.id S.R.tail T.last } pl.fo.1 ∧ Kept xs w w' := by
  have hT : S.txs[0]? = some T := by rw [h1]; rfl
  obtain ⟨g, x, uv, vs, cc, hov, hx, hu, t, hcell⟩ := h.txAt 0 T hT
  have HF := hide (sfind_ok h hx hT (fun j U hj => by omega) n hn)
  have HIS := hide (isOf_ok h hx hT hu rs hrs hgd j R hj hR (m : Int) (by rw [hm]))
  obtain ⟨VF, hVF⟩ : ∃ VF, rbV us.reverse S.R.tail V = VF := ⟨_, rfl⟩
  obtain ⟨HH, hHH⟩ : ∃ HH, S.R.held ++ rbH us.reverse T.id S.R.tail T.last = HH := ⟨_, rfl⟩
  obtain ⟨LF, hLF⟩ : ∃ LF, rbL us.reverse S.R.tail T.last = LF := ⟨_, rfl⟩
  rw [hVF, hHH, hLF]
  have HR1 : Hid (∀ W2, Below w.heap.size w W2 → Bk w0 w W2 s c xs S x T.id T.begin us0 VF HH LF (S.pool.wr + 2 * us.length) us) := fun W2 hb2 =>
    ⟨⟨S, T.last, V, tb, ov, ps, uvs, uv, h.belowW hb2, by rw [h1, ← hups], hx, hu, hla, hi, hVF, hHH, hLF, Nat.le_refl _, rfl, hroom, ⟨S.R.fin, rfl⟩, rfl⟩, hok, ⟨hb2.size, fun k hk => hb2.block k (h.lt hk)⟩, by rw [← hups]; exact hfew⟩
  have HU := hide (And.intro hu0 hu1)
  have hW : S.pool.wr + 2 * us.length ≤ 1000000 := hwr
  generalize S.pool.wr + 2 * us.length = WW at *
  clear h hx hT hu hroom hcell t hov hn hi hok hVF hHH hLF hla h1 hwr hrs hgd hj hR hm hu0 hu1 hups hfew
  generalize T.id = id at *
  generalize T.begin = bg at *
  go_enter Tryz.func14, Tryz.ntmps14
  go_wp2
  refine wp_scope_two 1 0 (fun a' w' => ∃ (us : List Up) (u9 u10 u11 u12 u13 u14 u15 u16 u17 u18 u19 u20 u21 u22 u23 u24 u25 u26 u27 u28 u29 u30 u31 u32 : Value), a' = { tmps := #[.pointer (some ⟨s, 0, none⟩), .int .i64 n, .int .i64 (m : Int), undef, undef, undef, .int .i64 0, .pointer (some ⟨x, 0, none⟩), .int .i64 0, u9, u10, u11, u12, u13, u14, u15, u16, u17, u18, u19, u20, u21, u22, u23, u24, u25, u26, u27, u28, u29, u30, u31, u32], defers := [] } ∧ Bk w0 w w' s c xs S x id bg us0 VF HH LF WW us ∧ ∀ u ∈ us, m < u.lsn) (fun a' w' => ∃ (u9 u10 u11 u12 u13 u14 u15 u16 u17 u18 u19 u20 u21 u22 u23 u24 u25 u26 u27 u28 u29 u30 u31 u32 : Value), a' = { tmps := #[.pointer (some ⟨s, 0, none⟩), .int .i64 n, .int .i64 (m : Int), undef, undef, undef, .int .i64 0, .pointer (some ⟨x, 0, none⟩), .int .i64 0, u9, u10, u11, u12, u13, u14, u15, u16, u17, u18, u19, u20, u21, u22, u23, u24, u25, u26, u27, u28, u29, u30, u31, u32], defers := [] } ∧ Bk w0 w w' s c xs S x id bg us0 VF HH LF WW []) (fun _ w' => upsIn x w') rfl rfl ?_ ?_ ?_
  · have HU1 : Hid (∀ u ∈ us, m < u.lsn) := HU.out.2
    go_upto_region 6 with (first
      | (go_at_call 31; refine HF.out.mono ?_; rintro e w' ⟨rfl, hw⟩; have hw := hw.symm; subst hw)
      | (go_at_call 37; refine HIS.out.mono ?_; rintro e W2 ⟨rfl, hb2⟩; have HB := hide (HR1.out W2 hb2); clear hb2))
    clear HR1
    go_step3
    rcases List.eq_nil_or_concat us with rfl | ⟨vs', u, rfl⟩
    · have HAS := hide (HB.out.asks m HU.out.1 HU1.out)
      simp only [ne_eq, not_true_eq_false, decide_false] at HAS
      go_wp2_with (first
        | (go_at_call 38; refine HAS.out.mono ?_; rintro e w' ⟨rfl, hw⟩; have hw := hw.symm; subst hw))
      go_step3
      exact .inr ⟨rfl, _, _, _, _, _, _, _, _, _, _, _, _, _, _, _, _, _, _, _, _, _, _, _, _, rfl, HB.out⟩
    · have HAS := hide (HB.out.asks m HU.out.1 HU1.out)
      have hne : decide (vs'.concat u ≠ []) = true := by simp
      rw [hne] at HAS
      have HB' : Hid (Bk w0 w W2 s c xs S x id bg us0 VF HH LF WW (vs' ++ [u])) := by rw [Hid, ← List.concat_eq_append]; exact HB.out
      have HST := hide (HB'.out.step hW hid)
      have HUV : Hid (∀ u ∈ vs', m < u.lsn) := fun v hv => HU1.out v (by simp [hv])
      have HMU : Hid (upsIn x W2 = (us0 ++ (vs' ++ [u])).length) := HB'.out.upsIn
      go_wp2_with (first
        | (go_at_call 38; refine HAS.out.mono ?_; rintro e w' ⟨rfl, hw⟩; have hw := hw.symm; subst hw)
        | (go_at_call 39; refine HST.out.mono ?_; rintro e W3 ⟨rfl, h3⟩; have H3 := hide h3; clear h3))
      go_step3
      exact .inl ⟨rfl, _, _, _, _, _, _, _, _, _, _, _, _, _, _, _, _, _, _, _, _, _, _, _, _, _, rfl, H3.out, HUV.out⟩
  · rintro a' wk ⟨us, u9, u10, u11, u12, u13, u14, u15, u16, u17, u18, u19, u20, u21, u22, u23, u24, u25, u26, u27, u28, u29, u30, u31, u32, rfl, hr, hu⟩
    have HB := hide hr
    have HU1 := hide hu
    clear hr hu
    rcases List.eq_nil_or_concat us with rfl | ⟨vs', u, rfl⟩
    · have HAS := hide (HB.out.asks m HU.out.1 HU1.out)
      simp only [ne_eq, not_true_eq_false, decide_false] at HAS
      go_wp2_with (first
        | (go_at_call 38; refine HAS.out.mono ?_; rintro e w' ⟨rfl, hw⟩; have hw := hw.symm; subst hw))
      go_step3
      exact .inr ⟨rfl, _, _, _, _, _, _, _, _, _, _, _, _, _, _, _, _, _, _, _, _, _, _, _, _, rfl, HB.out⟩
    · have HAS := hide (HB.out.asks m HU.out.1 HU1.out)
      have hne : decide (vs'.concat u ≠ []) = true := by simp
      rw [hne] at HAS
      have HB' : Hid (Bk w0 w wk s c xs S x id bg us0 VF HH LF WW (vs' ++ [u])) := by rw [Hid, ← List.concat_eq_append]; exact HB.out
      have HST := hide (HB'.out.step hW hid)
      have HUV : Hid (∀ u ∈ vs', m < u.lsn) := fun v hv => HU1.out v (by simp [hv])
      have HMU : Hid (upsIn x wk = (us0 ++ (vs' ++ [u])).length) := HB'.out.upsIn
      go_wp2_with (first
        | (go_at_call 38; refine HAS.out.mono ?_; rintro e w' ⟨rfl, hw⟩; have hw := hw.symm; subst hw)
        | (go_at_call 39; refine HST.out.mono ?_; rintro e W3 ⟨rfl, h3⟩; have H3 := hide h3; clear h3))
      go_step3
      exact .inl ⟨rfl, ⟨_, _, _, _, _, _, _, _, _, _, _, _, _, _, _, _, _, _, _, _, _, _, _, _, _, rfl, H3.out, HUV.out⟩, by rw [HMU.out, H3.out.upsIn]; simp⟩
  · rintro a' wk ⟨u9, u10, u11, u12, u13, u14, u15, u16, u17, u18, u19, u20, u21, u22, u23, u24, u25, u26, u27, u28, u29, u30, u31, u32, rfl, hr⟩
    have HFI := hide hr.fin
    clear hr
    go_wp2
    go_ret
    exact ⟨rfl, HFI.out⟩
end
end Go.Proofs.YteeembildppgmaaGreat
namespace Go.Proofs.YteeembildppgmaaGreat
open Go.RowKit
set_option linter.unusedVariables false
set_option linter.unusedSimpArgs false
def areaN (D : Nat → List UInt8) (j : Nat) : List UInt8 := (List.range j).flatMap D
theorem areaN_succ (D : Nat → List UInt8) (j : Nat) : areaN D (j + 1) = areaN D j ++ D j := by simp [areaN, List.range_succ]
theorem len_areaN {D : Nat → List UInt8} {n : Nat} (h : ∀ p, p < n → (D p).length = 504) : ∀ j, j ≤ n → (areaN D j).length = 504 * j
  | 0, _ => rfl
  | j + 1, hj => by rw [areaN_succ, List.length_append, len_areaN h j (by omega), h j (by omega)]; omega
theorem size_strOf (l : List UInt8) : (strOf l).size = l.length := by simp [strOf, ByteArray.size]
theorem strOf_append (a b : List UInt8) : strOf a ++ strOf b = strOf (a ++ b) := by
  apply ByteArray.ext
  simp [strOf, ByteArray.data_append]
section
variable {w0 w w' : World} {s : Nat} {c : Cf} {xs tb : List Nat} {ov : Value} {ps : List Nat} {uvs : List Value} {S : St} {V : Nat → List UInt8}
structure Rdd (w0 w wk : World) (s : Nat) (c : Cf) (xs tb : List Nat) (ov : Value) (ps : List Nat) (uvs : List Value) (S : St) (V : Nat → List UInt8) (k : Nat) : Prop where
  is : ∃ pl, StIs w0 wk s c xs tb ov ps uvs { S with pool := pl } ∧ PInv c.n pl V ∧ RS S.R pl.fo.1 ∧ pl.wr ≤ S.pool.wr + k ∧ pl.fs.length = S.pool.fs.length
  kept : Kept (s :: (tb ++ xs)) w wk
theorem Rdd.read {wk : World} {k : Nat} (r : Rdd w0 w wk s c xs tb ov ps uvs S V k) (hwr : S.pool.wr + k ≤ 1000000) (pg : Nat) (hp : pg < c.n) :
    Calls Tryz.prog 24 #[.pointer (some ⟨s, 0, none⟩), .int .i64 (pg : Int), .int .i64 0, .int .i64 504] wk fun e w' => ∃ g, e = .returned (.tuple #[.slice (some ⟨g, 0, none⟩) 504 504, .int .i64 0]) ∧ w'.heap[g]? = some (.cells (secCells (dat V pg)).toArray 5 (0, 0)) ∧ Rdd w0 w w' s c xs tb ov ps uvs S V (k + 1) := by
  obtain ⟨⟨pl, h, hi, hr, hw, hf⟩, kept⟩ := r
  have hv := hi.v5 pg hp
  have e0 : ((V pg).drop (8 + 0)).take 504 = dat V pg := by
    unfold dat
    rw [List.take_of_length_le (by rw [List.length_drop, hv]; omega)]
  refine (sread_ok h hi (by show pl.wr ≤ _; omega) pg 0 504 hp (by omega) (by omega)).mono ?_
  rintro e w' ⟨g, rfl, _, hg, h', hk'⟩
  rw [e0] at hg
  obtain ⟨_, _, st⟩ := hi.get pg hp
  refine ⟨g, rfl, hg, ⟨⟨_, h'.mind (fun k hk => by simp [hk]), st.inv, hr.trans st.rs, by have := st.wr; show (cGet c pl pg).2.2.wr ≤ _; omega, by rw [← hf]; exact st.len⟩, kept.trans hk'⟩⟩
set_option maxHeartbeats 1000000 in
set_option maxRecDepth 100000 in
theorem area_ok (h : StIs w0 w s c xs tb ov ps uvs S) (hi : PInv c.n S.pool V) (hwr : S.pool.wr + 3 ≤ 1000000) (hn : 3 ≤ c.n) :
    Calls Tryz.prog 12 #[.pointer (some ⟨s, 0, none⟩), .int .i64 3] w fun e w' => e = .returned (.tuple #[.string (strOf (areaN (dat V) 3)), .bool true]) ∧ Rdd w0 w w' s c xs tb ov ps uvs S V 3 := by
  have HR0 : Hid (Rdd w0 w w s c xs tb ov ps uvs S V 0) := ⟨⟨S.pool, h, hi, RS.refl _, Nat.le_refl _, rfl⟩, ⟨Nat.le_refl _, fun k hk => rfl⟩⟩
  have HV : Hid (∀ p, p < 3 → (dat V p).length = 504) := fun p hp => by
    unfold dat
    rw [List.length_drop, hi.v5 p (by omega)]
  clear h hi
  go_enter Tryz.func12, Tryz.ntmps12
  go_wp2
  go_loopw [7, 6] (fun i a wr => ∃ j : Nat, j ≤ 3 ∧ i = .int .i64 (j : Int) ∧ a = .string (strOf (areaN (dat V) j)) ∧ Hid (Rdd w0 w wr s c xs tb ov ps uvs S V j)) (fun i _ _ => 3 - (intOf i).toNat)
  case atStart => exact ⟨0, by omega, rfl, rfl, HR0.out⟩
  case round =>
    obtain ⟨j, hj, rfl, rfl, HR⟩ := hrel
    by_cases hj3 : j < 3
    · have HRD := hide (HR.out.read (by omega) j (by omega))
      have HVJ := hide (HV.out j hj3)
      have HAP := hide (strOf_append (areaN (dat V) j) (dat V j))
      have HAN := hide (areaN_succ (dat V) j)
      have hsz : ¬ (9223372036854775807 < (strOf (areaN (dat V) j)).size + (strOf (dat V j)).size) := by
        rw [size_strOf, size_strOf, len_areaN HV.out j (by omega), HV.out j hj3]
        omega
      go_wp2_with (go_at_call 24; refine HRD.out.mono ?_; rintro e W1 ⟨g, rfl, hg, hr1⟩; have HR1 := hide hr1; have hcv : (convert 36 9 (.slice (some ⟨g, 0, none⟩) 504 504)).run Tryz.prog W1 = .ok (.string (strOf (dat V j))) W1 := run_strAt W1 g 0 504 504 (dat V j) HVJ.out (rng_block hg); clear hg hr1 HRD)
      go_roundw
      case rel =>
        refine ⟨j + 1, by omega, by go_num, ?_, HR1.out⟩
        rw [HAN.out, ← HAP.out]
      case measure => simp [intOf]; omega
    · have hje : j = 3 := by omega
      subst hje
      go_wp2
      go_ret2
      exact ⟨rfl, HR.out⟩
set_option maxHeartbeats 1000000 in
set_option maxRecDepth 100000 in
theorem swrite_zero (h : StIs w0 w s c xs tb ov ps uvs S) {i x : Nat} {T : Tn} {uv : Value} (hx : ps[i]? = some x) (hT : S.txs[i]? = some T) (hu : uvs[i]? = some uv) (hno : ∀ (j : Nat) U, j < i → S.txs[j]? = some U → U.id ≠ T.id) (t : Int) (ht : t = (T.id : Int)) (pg off : Nat) (a : Option Addr) (ca : Nat) (hp : pg < c.n) (ho : off ≤ 504)
    (hbz : Calls Tryz.prog 33 #[.pointer (some ⟨s, 0, none⟩), .pointer (some ⟨x, 0, none⟩), .int .i64 (pg : Int), .int .i64 (off : Int), .int .i64 0] w fun e w' => e = .returned (.bool false) ∧ Below w.heap.size w w') :
    Calls Tryz.prog 13 #[.pointer (some ⟨s, 0, none⟩), .int .i64 t, .int .i64 (pg : Int), .int .i64 (off : Int), .slice a 0 ca] w fun e w' => e = .returned (.int .i64 0) ∧ Below w.heap.size w w' := by
  have HF := hide (sfind_ok h hx hT hno t ht)
  have HHAS := hide (shas_any h (pg : Int) (off : Int) 0 (by omega))
  have hhas : hasB c.n (pg : Int) (off : Int) 0 = true := decide_eq_true (by omega)
  rw [hhas] at HHAS
  have HBZ := hide hbz
  clear h hx hT hu hno ht hbz hhas
  go_enter Tryz.func13, Tryz.ntmps13
  go_wp2_with (first
    | (go_at_call 31; refine HF.out.mono ?_; rintro e w' ⟨rfl, hw⟩; have hw := hw.symm; subst hw)
    | (go_at_call 32; refine HHAS.out.mono ?_; rintro e w' ⟨rfl, hw⟩; have hw := hw.symm; subst hw)
    | (go_at_call 33; refine HBZ.out.mono ?_; rintro e W1 ⟨rfl, hb1⟩; have HB1 := hide hb1; clear hb1))
  go_ret
  exact ⟨rfl, HB1.out⟩
end
end Go.Proofs.YteeembildppgmaaGreat
namespace Go.Proofs.YteeembildppgmaaGreat
open Go.RowKit
set_option linter.unusedVariables false
set_option linter.unusedSimpArgs false
def layL (n : Int) : Int := if n < 128 then 0 else n.tdiv 4
def layP (n : Int) : Int := if n < 128 then 0 else (n - 7 - n.tdiv 4).tdiv 4
set_option maxHeartbeats 400000 in
theorem layout_any (w : World) (n : Int) (h1 : -9223372036854775808 ≤ n) (h2 : n ≤ 9223372036854775807) :
    Calls Tryz.prog 17 #[.int .i64 n] w fun e w' => e = .returned (.tuple #[.int .i64 (layL n), .int .i64 (layP n)]) ∧ w' = w := by
  unfold layL layP
  by_cases h : n < 128
  · simp only [if_pos h]
    go_enter Tryz.func17, Tryz.ntmps17
    go_wp2
    go_ret2
    exact ⟨rfl, rfl⟩
  · simp only [if_neg h]
    have e4 : n.tdiv 4 = n / 4 := Int.tdiv_eq_ediv_of_nonneg (by omega)
    have e5 : (n - 7 - n.tdiv 4).tdiv 4 = (n - 7 - n / 4) / 4 := by rw [e4]; exact Int.tdiv_eq_ediv_of_nonneg (by omega)
    rw [e5, e4]
    go_enter Tryz.func17, Tryz.ntmps17
    go_wp2
    go_ret2
    rw [show n - 7 - n / 4 = n - 2 - n / 4 - 5 by omega]
    exact ⟨rfl, rfl⟩
set_option maxHeartbeats 400000 in
theorem snumber_ok (w : World) (g o n c : Nat) (bs : List UInt8) (hl : bs.length = 8) (hn : 8 ≤ n) (hc : n ≤ c) (hm : c ≤ 1000000) (hr : w.rangeAt g o (secCells bs)) (hv : Enc.beval bs ≤ 4611686018427387904) :
    Calls Tryz.prog 104 #[.slice (some ⟨g, o, none⟩) n c] w fun e w' => e = .returned (.tuple #[.int .i64 (Enc.beval bs : Nat), .bool true]) ∧ w' = w := by
  have HG : Hid (∀ k (hk : k < 8), w.cell? ⟨g, o + k, none⟩ = some (.int .u8 ((bs.getD k 0).toNat : Int))) := fun k hk => by
    have := hr k (.int .u8 ((bs.getD k 0).toNat : Int)) (by simp [secCells, bcell, List.getElem?_eq_getElem (show k < bs.length by omega), List.getD])
    exact this
  have HT : Hid (∀ k, k < 8 → Enc.beval (bs.take (k + 1)) = Enc.beval (bs.take k) * 256 + (bs[k]?.getD 0).toNat) := fun k hk => by
    rw [List.take_succ_eq_append_getElem (by omega), Enc.beval_snoc, List.getElem?_eq_getElem (by omega)]
    rfl
  have hcut1 : ∀ u, (Instr.sliceAt 36 (.slice (some ⟨g, o, none⟩) n c) none (some (.int .i64 8)) none).run Tryz.prog u = .ok (.slice (some ⟨g, o, none⟩) 8 c) u := fun u => Enc.run_cut_to u (some ⟨g, o, none⟩) n c 8 (by omega)
  have hgr : ((Enc.beval (bs.take 8) : Nat) : Int) ≤ 4611686018427387904 := by rw [List.take_of_length_le (by omega)]; omega
  have HALL : Hid (bs.take 8 = bs) := List.take_of_length_le (by omega)
  clear hr hv hl
  go_enter Tryz.func104, Tryz.ntmps104
  go_wp2
  go_loop [10, 4] (fun i v => ∃ k : Nat, k ≤ 8 ∧ i = .int .i64 k ∧ v = .int .u64 (Enc.beval (bs.take k) : Nat)) (fun i _ => 8 - (intOf i).toNat)
  case atStart => exact ⟨0, by omega, rfl, rfl⟩
  case round =>
    obtain ⟨k, hk, rfl, rfl⟩ := hrel
    by_cases hlt : k < 8
    · have hcell := HG.out k hlt
      go_wp2
      go_round
      case rel =>
        refine ⟨k + 1, by omega, by go_num, ?_⟩
        rw [Enc.or_u64 _ _ (Enc.beval_take_lt bs k (by omega)) (UInt8.toNat_lt _), HT.out k hlt]
      case measure => simp [intOf]; omega
    · have hk8 : k = 8 := by omega
      subst hk8
      go_wp2
      go_ret2
      rw [HALL.out]
      exact ⟨rfl, rfl⟩
section
variable {w0 w w' : World} {s : Nat} {c : Cf} {xs tb : List Nat} {ov : Value} {ps : List Nat} {uvs : List Value} {S : St} {V : Nat → List UInt8}
set_option maxHeartbeats 400000 in
theorem log_ok (h : StIs w0 w s c xs tb ov ps uvs S) (rs : List Enc.Rc) (hrs : S.R.held = encs rs) (hgd : ∀ R ∈ rs, R.good) :
    Calls Tryz.prog 43 #[.pointer (some ⟨s, 0, none⟩)] w fun e w' => ∃ l, e = .returned l ∧ LinesAt w' w.heap.size l S.R.start rs ∧ Below w.heap.size w w' := by
  have HL := hide (lines_ok h rs hrs hgd)
  clear h hrs hgd
  go_enter Tryz.func43, Tryz.ntmps43
  go_wp2_with (go_at_call 65; refine HL.out.mono ?_; rintro e w2 ⟨l, rfl, h2⟩; have H2 := hide h2; clear h2)
  go_ret
  exact ⟨l, rfl, H2.out⟩
end
end Go.Proofs.YteeembildppgmaaGreat
namespace Go.Proofs.YteeembildppgmaaGreat
open Go.RowKit
set_option linter.unusedVariables false
set_option linter.unusedSimpArgs false
set_option maxHeartbeats 400000 in
set_option maxRecDepth 100000 in
theorem fields_any (w : World) (f : Nat) : Calls Tryz.prog 103 #[.pointer (some ⟨f, 0, none⟩)] w fun e w' => e = .returned (.slice (some ⟨w.heap.size, 0, none⟩) 4 4) ∧ w' = (w.drewN 1).alloc (.cells #[.pointer (some ⟨f, 0, none⟩), .pointer (some ⟨f, 1, none⟩), .pointer (some ⟨f, 2, none⟩), .pointer (some ⟨f, 3, none⟩)] 159) := by
  have HBS : Hid (∀ (ρ : Operand → Value) (o : Oper), o.op = .buildSlice 157 4 #[(0, .tmp 5), (1, .tmp 8), (2, .tmp 11), (3, .tmp 14)] → ρ (.tmp 5) = .pointer (some ⟨f, 0, none⟩) → ρ (.tmp 8) = .pointer (some ⟨f, 1, none⟩) → ρ (.tmp 11) = .pointer (some ⟨f, 2, none⟩) → ρ (.tmp 14) = .pointer (some ⟨f, 3, none⟩) →
      (execOp ρ o).run Tryz.prog (w.drewN 1) = .ok (.value (.slice (some ⟨w.heap.size, 0, none⟩) 4 4)) ((w.drewN 1).alloc (.cells #[.pointer (some ⟨f, 0, none⟩), .pointer (some ⟨f, 1, none⟩), .pointer (some ⟨f, 2, none⟩), .pointer (some ⟨f, 3, none⟩)] 159))) := fun ρ o h1 h2 h3 h4 h5 => by
    unfold execOp
    simp only [h1, List.map_toArray, List.map_cons, List.map_nil, h2, h3, h4, h5]
    kernel_rfl
  go_enter Tryz.func103, Tryz.ntmps103
  go_wp2_with fail
  refine wp_region_held_drew (S := fun _ => True) (by kernel_rfl) trivial (fun hH => ?_)
  refine take_to 0 3 (.pointer (some ⟨f, 0, none⟩)) rfl (by kernel_rfl) (by kernel_rfl) (by kernel_rfl) (fun _ _ _ h => h) rfl (by rfl) (fun w hw => by rfl) hH ?_
  simp only [Act.put, List.setIfInBounds_toArray, List.set_cons_zero, List.set_cons_succ]
  refine take_to 1 4 (.pointer (some ⟨f, 0, none⟩)) rfl (by kernel_rfl) (by kernel_rfl) (by kernel_rfl) (fun _ _ _ h => h) rfl (by rfl) (fun w hw => by rfl) hH ?_
  simp only [Act.put, List.setIfInBounds_toArray, List.set_cons_zero, List.set_cons_succ]
  refine take_to 2 5 (.pointer (some ⟨f, 0, none⟩)) rfl (by kernel_rfl) (by kernel_rfl) (by kernel_rfl) (fun _ _ _ h => h) rfl (by rfl) (fun w hw => by rfl) hH ?_
  simp only [Act.put, List.setIfInBounds_toArray, List.set_cons_zero, List.set_cons_succ]
  refine take_to 3 6 (.pointer (some ⟨f, 0, none⟩)) rfl (by kernel_rfl) (by kernel_rfl) (by kernel_rfl) (fun _ _ _ h => h) rfl (by rfl) (fun w hw => by rfl) hH ?_
  simp only [Act.put, List.setIfInBounds_toArray, List.set_cons_zero, List.set_cons_succ]
  refine take_to 4 7 (.pointer (some ⟨f, 0, none⟩)) rfl (by kernel_rfl) (by kernel_rfl) (by kernel_rfl) (fun _ _ _ h => h) rfl (by rfl) (fun w hw => by rfl) hH ?_
  simp only [Act.put, List.setIfInBounds_toArray, List.set_cons_zero, List.set_cons_succ]
  refine take_to 5 8 (.pointer (some ⟨f, 1, none⟩)) rfl (by kernel_rfl) (by kernel_rfl) (by kernel_rfl) (fun _ _ _ h => h) rfl (by rfl) (fun w hw => by rfl) hH ?_
  simp only [Act.put, List.setIfInBounds_toArray, List.set_cons_zero, List.set_cons_succ]
  refine take_to 6 9 (.pointer (some ⟨f, 0, none⟩)) rfl (by kernel_rfl) (by kernel_rfl) (by kernel_rfl) (fun _ _ _ h => h) rfl (by rfl) (fun w hw => by rfl) hH ?_
  simp only [Act.put, List.setIfInBounds_toArray, List.set_cons_zero, List.set_cons_succ]
  refine take_to 7 10 (.pointer (some ⟨f, 0, none⟩)) rfl (by kernel_rfl) (by kernel_rfl) (by kernel_rfl) (fun _ _ _ h => h) rfl (by rfl) (fun w hw => by rfl) hH ?_
  simp only [Act.put, List.setIfInBounds_toArray, List.set_cons_zero, List.set_cons_succ]
  refine take_to 8 11 (.pointer (some ⟨f, 2, none⟩)) rfl (by kernel_rfl) (by kernel_rfl) (by kernel_rfl) (fun _ _ _ h => h) rfl (by rfl) (fun w hw => by rfl) hH ?_
  simp only [Act.put, List.setIfInBounds_toArray, List.set_cons_zero, List.set_cons_succ]
  refine take_to 9 12 (.pointer (some ⟨f, 0, none⟩)) rfl (by kernel_rfl) (by kernel_rfl) (by kernel_rfl) (fun _ _ _ h => h) rfl (by rfl) (fun w hw => by rfl) hH ?_
  simp only [Act.put, List.setIfInBounds_toArray, List.set_cons_zero, List.set_cons_succ]
  refine take_to 10 13 (.pointer (some ⟨f, 0, none⟩)) rfl (by kernel_rfl) (by kernel_rfl) (by kernel_rfl) (fun _ _ _ h => h) rfl (by rfl) (fun w hw => by rfl) hH ?_
  simp only [Act.put, List.setIfInBounds_toArray, List.set_cons_zero, List.set_cons_succ]
  refine take_to 11 14 (.pointer (some ⟨f, 3, none⟩)) rfl (by kernel_rfl) (by kernel_rfl) (by kernel_rfl) (fun _ _ _ h => h) rfl (by rfl) (fun w hw => by rfl) hH ?_
  simp only [Act.put, List.setIfInBounds_toArray, List.set_cons_zero, List.set_cons_succ]
  refine step_to 12 15 (.slice (some ⟨w.heap.size, 0, none⟩) 4 4) _ rfl (by kernel_rfl) rfl (by rfl) (HBS.out _ _ rfl rfl rfl rfl rfl) trivial ?_
  simp only [Act.put, List.setIfInBounds_toArray, List.set_cons_zero, List.set_cons_succ]
  refine step_to 13 2 (.slice (some ⟨w.heap.size, 0, none⟩) 4 4) _ rfl (by kernel_rfl) rfl (by rfl) (rfl) trivial ?_
  simp only [Act.put, List.setIfInBounds_toArray, List.set_cons_zero, List.set_cons_succ]
  refine wpAnyH_done (by kernel_rfl) ?_ _
  go_wp2
  go_ret
  exact ⟨rfl, rfl⟩

def mkSec (v0 v1 v2 v3 : Nat) : Nat → List UInt8
  | 0 => zerosN 128
  | 1 => patch (zerosN 128) 0 (be8 v0)
  | 2 => patch (patch (zerosN 128) 0 (be8 v0)) 8 (be8 v1)
  | 3 => patch (patch (patch (zerosN 128) 0 (be8 v0)) 8 (be8 v1)) 16 (be8 v2)
  | _ => patch (patch (patch (patch (zerosN 128) 0 (be8 v0)) 8 (be8 v1)) 16 (be8 v2)) 24 (be8 v3)
theorem length_mkSec (v0 v1 v2 v3 : Nat) : ∀ k, (mkSec v0 v1 v2 v3 k).length = 128 := by
  have z : (zerosN 128).length = 128 := by simp [zerosN]
  have b : ∀ v, (be8 v).length = 8 := length_be8
  have p : ∀ (l : List UInt8) (o v : Nat), l.length = 128 → o + 8 ≤ 128 → (patch l o (be8 v)).length = 128 := fun l o v hl ho => by rw [length_patch _ _ _ (by rw [b, hl]; exact ho)]; exact hl
  have p1 := p _ 0 v0 z (by omega)
  have p2 := p _ 8 v1 p1 (by omega)
  have p3 := p _ 16 v2 p2 (by omega)
  have p4 := p _ 24 v3 p3 (by omega)
  intro k
  match k with
  | 0 => exact z
  | 1 => exact p1
  | 2 => exact p2
  | 3 => exact p3
  | _ + 4 => exact p4
theorem Tryz.enters96 (args : Array Value) (w : World) : (callFunc 96 args).run Tryz.prog w = .ok (.enter 96 args) w := by kernel_rfl
set_option maxHeartbeats 2000000 in
set_option maxRecDepth 100000 in
theorem sector_any (w : World) (v0 v1 v2 v3 : Nat) (b0 : v0 < 4611686018427387904) (b1 : v1 < 4611686018427387904) (b2 : v2 < 4611686018427387904) (b3 : v3 < 4611686018427387904) :
    Calls Tryz.prog 105 #[.agg #[.int .i64 (v0 : Int), .int .i64 (v1 : Int), .int .i64 (v2 : Int), .int .i64 (v3 : Int)]] w fun e w' => ∃ g, e = .returned (.slice (some ⟨g, 0, none⟩) 128 128) ∧ w.heap.size ≤ g ∧ (∃ cur, BlkAt w' g 128 (mkSec v0 v1 v2 v3 4) cur) ∧ Below w.heap.size w w' := by
  obtain ⟨W1, hW1⟩ : ∃ W1, w.alloc (.cells #[.int .i64 (v0 : Int), .int .i64 (v1 : Int), .int .i64 (v2 : Int), .int .i64 (v3 : Int)] 99) = W1 := ⟨_, rfl⟩
  obtain ⟨F, hF⟩ : ∃ F, w.heap.size = F := ⟨_, rfl⟩
  obtain ⟨G, hG⟩ : ∃ G, W1.heap.size = G := ⟨_, rfl⟩
  obtain ⟨W2, hW2⟩ : ∃ W2, W1.alloc (.cells (secCells (zerosN 128)).toArray 5) = W2 := ⟨_, rfl⟩
  obtain ⟨H, hH⟩ : ∃ H, W2.heap.size = H := ⟨_, rfl⟩
  obtain ⟨W3, hW3⟩ : ∃ W3, (W2.drewN 1).alloc (.cells #[.pointer (some ⟨F, 0, none⟩), .pointer (some ⟨F, 1, none⟩), .pointer (some ⟨F, 2, none⟩), .pointer (some ⟨F, 3, none⟩)] 159) = W3 := ⟨_, rfl⟩
  have hmk2 : (Instr.makeSlice 36 (.int .i64 128) (.int .i64 128)).run Tryz.prog (w.alloc (.cells #[.int .i64 (v0 : Int), .int .i64 (v1 : Int), .int .i64 (v2 : Int), .int .i64 (v3 : Int)] 99)) = .ok (.slice (some ⟨G, 0, none⟩) 128 128) W2 := by rw [hW1, ← hW2, ← hG]; exact makeN 128 (by omega) W1
  have HFI := hide (fields_any W2 F)
  rw [hH, hW3, ← hF] at HFI
  have zG : G = F + 1 := by rw [← hG, ← hW1, ← hF]; simp
  have zH : H = F + 2 := by rw [← hH, ← hW2, World.size_alloc, hG, zG]
  have f3 : W3.heap[F]? = some (.cells #[.int .i64 (v0 : Int), .int .i64 (v1 : Int), .int .i64 (v2 : Int), .int .i64 (v3 : Int)] 99 (0, 0)) := by
    have h1 : W1.heap[F]? = some (.cells #[.int .i64 (v0 : Int), .int .i64 (v1 : Int), .int .i64 (v2 : Int), .int .i64 (v3 : Int)] 99 (0, 0)) := by rw [← hW1, ← hF]; exact heap_alloc_new w _
    have h2 : W2.heap[F]? = W1.heap[F]? := by rw [← hW2]; exact Below.heap_alloc _ _ _ (by omega)
    have h3 : W3.heap[F]? = W2.heap[F]? := by rw [← hW3]; exact Below.heap_alloc _ _ _ (by show F < W2.heap.size; omega)
    rw [h3, h2, h1]
  have g3 : W3.heap[G]? = some (.cells (secCells (zerosN 128)).toArray 5 (0, 0)) := by
    have h2 : W2.heap[G]? = some (.cells (secCells (zerosN 128)).toArray 5 (0, 0)) := by rw [← hW2, ← hG]; exact heap_alloc_new W1 _
    have h3 : W3.heap[G]? = W2.heap[G]? := by rw [← hW3]; exact Below.heap_alloc _ _ _ (by show G < W2.heap.size; omega)
    rw [h3, h2]
  have p3 : W3.heap[H]? = some (.cells #[.pointer (some ⟨F, 0, none⟩), .pointer (some ⟨F, 1, none⟩), .pointer (some ⟨F, 2, none⟩), .pointer (some ⟨F, 3, none⟩)] 159 (0, 0)) := by rw [← hW3, ← hH]; exact heap_alloc_new (W2.drewN 1) _
  have B3 : Below F w W3 := by
    rw [← hF, ← hW3, ← hW2, ← hW1]
    exact ((((Below.refl _ w).alloc (Nat.le_refl _) _).alloc (by simp) _).trans (below_drewN _ _ 1)).alloc (by simp; omega) _
  have HS3 := hide (And.intro f3 (And.intro g3 (And.intro p3 B3)))
  have HFG : Hid (¬ F = G) := fun e => by omega
  have HHG : Hid (¬ H = G) := fun e => by omega
  have HZ : Hid (F < G ∧ G < H) := ⟨by omega, by omega⟩
  have hGF : F ≤ G := by omega
  rw [hF]
  have HFE := hide hF
  clear f3 g3 p3 B3 hW1 hW2 hW3 zG zH hF hG hH
  go_enter Tryz.func105, Tryz.ntmps105
  go_wp2_with (first | (go_at_call 103; refine HFI.out.mono ?_; rintro e w' ⟨rfl, hw⟩; have hw := hw.symm; subst hw) | fail)
  rw [HFE.out]
  go_loopw [9] (fun i wr => ∃ k : Nat, k ≤ 4 ∧ i = .int .i64 k ∧ (∃ cur, BlkAt wr G 128 (mkSec v0 v1 v2 v3 k) cur) ∧ wr.heap[F]? = some (.cells #[.int .i64 (v0 : Int), .int .i64 (v1 : Int), .int .i64 (v2 : Int), .int .i64 (v3 : Int)] 99 (0, 0)) ∧ wr.heap[H]? = some (.cells #[.pointer (some ⟨F, 0, none⟩), .pointer (some ⟨F, 1, none⟩), .pointer (some ⟨F, 2, none⟩), .pointer (some ⟨F, 3, none⟩)] 159 (0, 0)) ∧ Below F w wr) (fun i _ => 4 - (intOf i).toNat)
  case atStart =>
    obtain ⟨f3, g3, p3, B3⟩ := HS3.out
    have hz : (zerosN 128).length = 128 := by simp [zerosN]
    exact ⟨0, by omega, rfl, ⟨_, by have := BlkAt.of g3; rw [hz] at this; exact this⟩, f3, p3, B3⟩
  case round =>
    obtain ⟨k, hk, rfl, ⟨cur, hblk⟩, f4, p4, B4⟩ := hrel
    have HBK := hide hblk
    have HF4 := hide f4
    have HP4 := hide p4
    have HB4 := hide B4
    have HFL : Hid (F < wr.heap.size) := (Array.getElem?_eq_some_iff.1 f4).1
    clear hblk B4
    rcases (by omega : k = 0 ∨ k = 1 ∨ k = 2 ∨ k = 3 ∨ k = 4) with rfl | rfl | rfl | rfl | rfl
    · have kH : wr.cell? ⟨H, 0, none⟩ = some (.pointer (some ⟨F, 0, none⟩)) := by rw [cell_of_row wr H 0 _ _ _ p4]; rfl
      have kF : wr.cell? ⟨F, 0, none⟩ = some (.int .i64 (v0 : Int)) := by rw [cell_of_row wr F 0 _ _ _ f4]; rfl
      have HPN := hide (putNumber_any G 0 128 128 v0 128 _ cur (wr.drewN 1) (HBK.out.keep rfl) (by rw [length_mkSec]; omega) (by omega) b0)
      clear f4 p4
      go_wp2_with fail
      refine wp_region_held_drew (S := fun w' => w'.cell? ⟨F, 0, none⟩ = some (.int .i64 (v0 : Int))) (by kernel_rfl) kF (fun hH => ?_)
      refine take_to 0 14 (.slice (some ⟨G, 0, none⟩) 128 128) rfl (by kernel_rfl) (by kernel_rfl) (by kernel_rfl) (fun _ _ _ h => h) rfl (by rfl) (fun w hw => by rfl) hH ?_
      simp only [Act.put, List.setIfInBounds_toArray, List.set_cons_zero, List.set_cons_succ]
      refine take_to 1 15 (.int .i64 0) rfl (by kernel_rfl) (by kernel_rfl) (by kernel_rfl) (fun _ _ _ h => h) rfl (by rfl) (fun w hw => by rfl) hH ?_
      simp only [Act.put, List.setIfInBounds_toArray, List.set_cons_zero, List.set_cons_succ]
      refine take_to 2 16 (.int .i64 0) rfl (by kernel_rfl) (by kernel_rfl) (by kernel_rfl) (fun _ _ _ h => h) rfl (by rfl) (fun w hw => by kernel_rfl) hH ?_
      simp only [Act.put, List.setIfInBounds_toArray, List.set_cons_zero, List.set_cons_succ]
      refine take_to 3 17 (.slice (some ⟨G, 0, none⟩) 128 128) rfl (by kernel_rfl) (by kernel_rfl) (by kernel_rfl) (fun _ _ _ h => h) rfl (by rfl) (fun w hw => by kernel_rfl) hH ?_
      simp only [Act.put, List.setIfInBounds_toArray, List.set_cons_zero, List.set_cons_succ]
      refine take_to 4 18 (.pointer (some ⟨F, 0, none⟩)) rfl (by kernel_rfl) (by kernel_rfl) (by kernel_rfl) (fun _ _ _ h => h) rfl (by rfl) (fun w hw => by rfl) hH ?_
      simp only [Act.put, List.setIfInBounds_toArray, List.set_cons_zero, List.set_cons_succ]
      refine take_to 5 19 (.pointer (some ⟨F, 0, none⟩)) rfl (by kernel_rfl) (by kernel_rfl) (by kernel_rfl) (fun _ _ _ h => h) rfl (by rfl) (fun w hw => by rfl) hH ?_
      simp only [Act.put, List.setIfInBounds_toArray, List.set_cons_zero, List.set_cons_succ]
      refine take_to 6 20 (.int .i64 (v0 : Int)) rfl (by kernel_rfl) (by kernel_rfl) (by kernel_rfl) (fun _ _ _ h => h) rfl (by rfl) (fun w hw => op_load _ _ 3 (.tmp 19) rfl (.pointer (some ⟨F, 0, none⟩)) _ rfl (run_loadAny w F 0 3 _ Tryz.isAgg3 hw)) hH ?_
      simp only [Act.put, List.setIfInBounds_toArray, List.set_cons_zero, List.set_cons_succ]
      refine step_call2_to 7 21 96 rfl (by kernel_rfl) rfl (by rfl) (.tmp 17) (.tmp 20) _ rfl _ _ rfl rfl Tryz.enters96 (HPN.out) ?_
      rintro e W5 ⟨rfl, h5, hO5⟩
      have hS5 : W5.cell? ⟨F, 0, none⟩ = some (.int .i64 (v0 : Int)) := (World.cell?_of_block (a := ⟨F, 0, none⟩) (hO5.block F HFL.out (by simpa using HFG.out))).trans kF
      refine ⟨_, rfl, hS5, ?_⟩
      simp only [Act.put, List.setIfInBounds_toArray, List.set_cons_zero, List.set_cons_succ]
      refine wpAnyH_done (by kernel_rfl) ?_ _
      have HO5 := hide hO5
      have H5 := hide h5
      clear hH hS5 hO5 h5 kH kF HPN
      go_wp2
      go_roundw
      case rel =>
        refine ⟨1, by omega, rfl, H5.out, (HO5.out.block F HFL.out (by simpa using HFG.out)).trans HF4.out, (HO5.out.block H (Array.getElem?_eq_some_iff.1 HP4.out).1 (by simpa using HHG.out)).trans HP4.out, (HB4.out.trans (below_drewN F wr 1)).trans (HO5.out.below (B := F) (Nat.le_of_lt HFL.out) (fun q hq => by simp at hq; omega))⟩
      case measure => simp [intOf]
    · have kH : wr.cell? ⟨H, 1, none⟩ = some (.pointer (some ⟨F, 1, none⟩)) := by rw [cell_of_row wr H 1 _ _ _ p4]; rfl
      have kF : wr.cell? ⟨F, 1, none⟩ = some (.int .i64 (v1 : Int)) := by rw [cell_of_row wr F 1 _ _ _ f4]; rfl
      have HPN := hide (putNumber_any G 8 120 120 v1 128 _ cur (wr.drewN 1) (HBK.out.keep rfl) (by rw [length_mkSec]; omega) (by omega) b1)
      clear f4 p4
      go_wp2_with fail
      refine wp_region_held_drew (S := fun w' => w'.cell? ⟨F, 1, none⟩ = some (.int .i64 (v1 : Int))) (by kernel_rfl) kF (fun hH => ?_)
      refine take_to 0 14 (.slice (some ⟨G, 0, none⟩) 128 128) rfl (by kernel_rfl) (by kernel_rfl) (by kernel_rfl) (fun _ _ _ h => h) rfl (by rfl) (fun w hw => by rfl) hH ?_
      simp only [Act.put, List.setIfInBounds_toArray, List.set_cons_zero, List.set_cons_succ]
      refine take_to 1 15 (.int .i64 1) rfl (by kernel_rfl) (by kernel_rfl) (by kernel_rfl) (fun _ _ _ h => h) rfl (by rfl) (fun w hw => by rfl) hH ?_
      simp only [Act.put, List.setIfInBounds_toArray, List.set_cons_zero, List.set_cons_succ]
      refine take_to 2 16 (.int .i64 8) rfl (by kernel_rfl) (by kernel_rfl) (by kernel_rfl) (fun _ _ _ h => h) rfl (by rfl) (fun w hw => by kernel_rfl) hH ?_
      simp only [Act.put, List.setIfInBounds_toArray, List.set_cons_zero, List.set_cons_succ]
      refine take_to 3 17 (.slice (some ⟨G, 8, none⟩) 120 120) rfl (by kernel_rfl) (by kernel_rfl) (by kernel_rfl) (fun _ _ _ h => h) rfl (by rfl) (fun w hw => by kernel_rfl) hH ?_
      simp only [Act.put, List.setIfInBounds_toArray, List.set_cons_zero, List.set_cons_succ]
      refine take_to 4 18 (.pointer (some ⟨F, 1, none⟩)) rfl (by kernel_rfl) (by kernel_rfl) (by kernel_rfl) (fun _ _ _ h => h) rfl (by rfl) (fun w hw => by rfl) hH ?_
      simp only [Act.put, List.setIfInBounds_toArray, List.set_cons_zero, List.set_cons_succ]
      refine take_to 5 19 (.pointer (some ⟨F, 1, none⟩)) rfl (by kernel_rfl) (by kernel_rfl) (by kernel_rfl) (fun _ _ _ h => h) rfl (by rfl) (fun w hw => by rfl) hH ?_
      simp only [Act.put, List.setIfInBounds_toArray, List.set_cons_zero, List.set_cons_succ]
      refine take_to 6 20 (.int .i64 (v1 : Int)) rfl (by kernel_rfl) (by kernel_rfl) (by kernel_rfl) (fun _ _ _ h => h) rfl (by rfl) (fun w hw => op_load _ _ 3 (.tmp 19) rfl (.pointer (some ⟨F, 1, none⟩)) _ rfl (run_loadAny w F 1 3 _ Tryz.isAgg3 hw)) hH ?_
      simp only [Act.put, List.setIfInBounds_toArray, List.set_cons_zero, List.set_cons_succ]
      refine step_call2_to 7 21 96 rfl (by kernel_rfl) rfl (by rfl) (.tmp 17) (.tmp 20) _ rfl _ _ rfl rfl Tryz.enters96 (HPN.out) ?_
      rintro e W5 ⟨rfl, h5, hO5⟩
      have hS5 : W5.cell? ⟨F, 1, none⟩ = some (.int .i64 (v1 : Int)) := (World.cell?_of_block (a := ⟨F, 1, none⟩) (hO5.block F HFL.out (by simpa using HFG.out))).trans kF
      refine ⟨_, rfl, hS5, ?_⟩
      simp only [Act.put, List.setIfInBounds_toArray, List.set_cons_zero, List.set_cons_succ]
      refine wpAnyH_done (by kernel_rfl) ?_ _
      have HO5 := hide hO5
      have H5 := hide h5
      clear hH hS5 hO5 h5 kH kF HPN
      go_wp2
      go_roundw
      case rel =>
        refine ⟨2, by omega, rfl, H5.out, (HO5.out.block F HFL.out (by simpa using HFG.out)).trans HF4.out, (HO5.out.block H (Array.getElem?_eq_some_iff.1 HP4.out).1 (by simpa using HHG.out)).trans HP4.out, (HB4.out.trans (below_drewN F wr 1)).trans (HO5.out.below (B := F) (Nat.le_of_lt HFL.out) (fun q hq => by simp at hq; omega))⟩
      case measure => simp [intOf]
    · have kH : wr.cell? ⟨H, 2, none⟩ = some (.pointer (some ⟨F, 2, none⟩)) := by rw [cell_of_row wr H 2 _ _ _ p4]; rfl
      have kF : wr.cell? ⟨F, 2, none⟩ = some (.int .i64 (v2 : Int)) := by rw [cell_of_row wr F 2 _ _ _ f4]; rfl
      have HPN := hide (putNumber_any G 16 112 112 v2 128 _ cur (wr.drewN 1) (HBK.out.keep rfl) (by rw [length_mkSec]; omega) (by omega) b2)
      clear f4 p4
      go_wp2_with fail
      refine wp_region_held_drew (S := fun w' => w'.cell? ⟨F, 2, none⟩ = some (.int .i64 (v2 : Int))) (by kernel_rfl) kF (fun hH => ?_)
      refine take_to 0 14 (.slice (some ⟨G, 0, none⟩) 128 128) rfl (by kernel_rfl) (by kernel_rfl) (by kernel_rfl) (fun _ _ _ h => h) rfl (by rfl) (fun w hw => by rfl) hH ?_
      simp only [Act.put, List.setIfInBounds_toArray, List.set_cons_zero, List.set_cons_succ]
      refine take_to 1 15 (.int .i64 2) rfl (by kernel_rfl) (by kernel_rfl) (by kernel_rfl) (fun _ _ _ h => h) rfl (by rfl) (fun w hw => by rfl) hH ?_
      simp only [Act.put, List.setIfInBounds_toArray, List.set_cons_zero, List.set_cons_succ]
      refine take_to 2 16 (.int .i64 16) rfl (by kernel_rfl) (by kernel_rfl) (by kernel_rfl) (fun _ _ _ h => h) rfl (by rfl) (fun w hw => by kernel_rfl) hH ?_
      simp only [Act.put, List.setIfInBounds_toArray, List.set_cons_zero, List.set_cons_succ]
      refine take_to 3 17 (.slice (some ⟨G, 16, none⟩) 112 112) rfl (by kernel_rfl) (by kernel_rfl) (by kernel_rfl) (fun _ _ _ h => h) rfl (by rfl) (fun w hw => by kernel_rfl) hH ?_
      simp only [Act.put, List.setIfInBounds_toArray, List.set_cons_zero, List.set_cons_succ]
      refine take_to 4 18 (.pointer (some ⟨F, 2, none⟩)) rfl (by kernel_rfl) (by kernel_rfl) (by kernel_rfl) (fun _ _ _ h => h) rfl (by rfl) (fun w hw => by rfl) hH ?_
      simp only [Act.put, List.setIfInBounds_toArray, List.set_cons_zero, List.set_cons_succ]
      refine take_to 5 19 (.pointer (some ⟨F, 2, none⟩)) rfl (by kernel_rfl) (by kernel_rfl) (by kernel_rfl) (fun _ _ _ h => h) rfl (by rfl) (fun w hw => by rfl) hH ?_
      simp only [Act.put, List.setIfInBounds_toArray, List.set_cons_zero, List.set_cons_succ]
      refine take_to 6 20 (.int .i64 (v2 : Int)) rfl (by kernel_rfl) (by kernel_rfl) (by kernel_rfl) (fun _ _ _ h => h) rfl (by rfl) (fun w hw => op_load _ _ 3 (.tmp 19) rfl (.pointer (some ⟨F, 2, none⟩)) _ rfl (run_loadAny w F 2 3 _ Tryz.isAgg3 hw)) hH ?_
      simp only [Act.put, List.setIfInBounds_toArray, List.set_cons_zero, List.set_cons_succ]
      refine step_call2_to 7 21 96 rfl (by kernel_rfl) rfl (by rfl) (.tmp 17) (.tmp 20) _ rfl _ _ rfl rfl Tryz.enters96 (HPN.out) ?_
      rintro e W5 ⟨rfl, h5, hO5⟩
      have hS5 : W5.cell? ⟨F, 2, none⟩ = some (.int .i64 (v2 : Int)) := (World.cell?_of_block (a := ⟨F, 2, none⟩) (hO5.block F HFL.out (by simpa using HFG.out))).trans kF
      refine ⟨_, rfl, hS5, ?_⟩
      simp only [Act.put, List.setIfInBounds_toArray, List.set_cons_zero, List.set_cons_succ]
      refine wpAnyH_done (by kernel_rfl) ?_ _
      have HO5 := hide hO5
      have H5 := hide h5
      clear hH hS5 hO5 h5 kH kF HPN
      go_wp2
      go_roundw
      case rel =>
        refine ⟨3, by omega, rfl, H5.out, (HO5.out.block F HFL.out (by simpa using HFG.out)).trans HF4.out, (HO5.out.block H (Array.getElem?_eq_some_iff.1 HP4.out).1 (by simpa using HHG.out)).trans HP4.out, (HB4.out.trans (below_drewN F wr 1)).trans (HO5.out.below (B := F) (Nat.le_of_lt HFL.out) (fun q hq => by simp at hq; omega))⟩
      case measure => simp [intOf]
    · have kH : wr.cell? ⟨H, 3, none⟩ = some (.pointer (some ⟨F, 3, none⟩)) := by rw [cell_of_row wr H 3 _ _ _ p4]; rfl
      have kF : wr.cell? ⟨F, 3, none⟩ = some (.int .i64 (v3 : Int)) := by rw [cell_of_row wr F 3 _ _ _ f4]; rfl
      have HPN := hide (putNumber_any G 24 104 104 v3 128 _ cur (wr.drewN 1) (HBK.out.keep rfl) (by rw [length_mkSec]; omega) (by omega) b3)
      clear f4 p4
      go_wp2_with fail
      refine wp_region_held_drew (S := fun w' => w'.cell? ⟨F, 3, none⟩ = some (.int .i64 (v3 : Int))) (by kernel_rfl) kF (fun hH => ?_)
      refine take_to 0 14 (.slice (some ⟨G, 0, none⟩) 128 128) rfl (by kernel_rfl) (by kernel_rfl) (by kernel_rfl) (fun _ _ _ h => h) rfl (by rfl) (fun w hw => by rfl) hH ?_
      simp only [Act.put, List.setIfInBounds_toArray, List.set_cons_zero, List.set_cons_succ]
      refine take_to 1 15 (.int .i64 3) rfl (by kernel_rfl) (by kernel_rfl) (by kernel_rfl) (fun _ _ _ h => h) rfl (by rfl) (fun w hw => by rfl) hH ?_
      simp only [Act.put, List.setIfInBounds_toArray, List.set_cons_zero, List.set_cons_succ]
      refine take_to 2 16 (.int .i64 24) rfl (by kernel_rfl) (by kernel_rfl) (by kernel_rfl) (fun _ _ _ h => h) rfl (by rfl) (fun w hw => by kernel_rfl) hH ?_
      simp only [Act.put, List.setIfInBounds_toArray, List.set_cons_zero, List.set_cons_succ]
      refine take_to 3 17 (.slice (some ⟨G, 24, none⟩) 104 104) rfl (by kernel_rfl) (by kernel_rfl) (by kernel_rfl) (fun _ _ _ h => h) rfl (by rfl) (fun w hw => by kernel_rfl) hH ?_
      simp only [Act.put, List.setIfInBounds_toArray, List.set_cons_zero, List.set_cons_succ]
      refine take_to 4 18 (.pointer (some ⟨F, 3, none⟩)) rfl (by kernel_rfl) (by kernel_rfl) (by kernel_rfl) (fun _ _ _ h => h) rfl (by rfl) (fun w hw => by rfl) hH ?_
      simp only [Act.put, List.setIfInBounds_toArray, List.set_cons_zero, List.set_cons_succ]
      refine take_to 5 19 (.pointer (some ⟨F, 3, none⟩)) rfl (by kernel_rfl) (by kernel_rfl) (by kernel_rfl) (fun _ _ _ h => h) rfl (by rfl) (fun w hw => by rfl) hH ?_
      simp only [Act.put, List.setIfInBounds_toArray, List.set_cons_zero, List.set_cons_succ]
      refine take_to 6 20 (.int .i64 (v3 : Int)) rfl (by kernel_rfl) (by kernel_rfl) (by kernel_rfl) (fun _ _ _ h => h) rfl (by rfl) (fun w hw => op_load _ _ 3 (.tmp 19) rfl (.pointer (some ⟨F, 3, none⟩)) _ rfl (run_loadAny w F 3 3 _ Tryz.isAgg3 hw)) hH ?_
      simp only [Act.put, List.setIfInBounds_toArray, List.set_cons_zero, List.set_cons_succ]
      refine step_call2_to 7 21 96 rfl (by kernel_rfl) rfl (by rfl) (.tmp 17) (.tmp 20) _ rfl _ _ rfl rfl Tryz.enters96 (HPN.out) ?_
      rintro e W5 ⟨rfl, h5, hO5⟩
      have hS5 : W5.cell? ⟨F, 3, none⟩ = some (.int .i64 (v3 : Int)) := (World.cell?_of_block (a := ⟨F, 3, none⟩) (hO5.block F HFL.out (by simpa using HFG.out))).trans kF
      refine ⟨_, rfl, hS5, ?_⟩
      simp only [Act.put, List.setIfInBounds_toArray, List.set_cons_zero, List.set_cons_succ]
      refine wpAnyH_done (by kernel_rfl) ?_ _
      have HO5 := hide hO5
      have H5 := hide h5
      clear hH hS5 hO5 h5 kH kF HPN
      go_wp2
      go_roundw
      case rel =>
        refine ⟨4, by omega, rfl, H5.out, (HO5.out.block F HFL.out (by simpa using HFG.out)).trans HF4.out, (HO5.out.block H (Array.getElem?_eq_some_iff.1 HP4.out).1 (by simpa using HHG.out)).trans HP4.out, (HB4.out.trans (below_drewN F wr 1)).trans (HO5.out.below (B := F) (Nat.le_of_lt HFL.out) (fun q hq => by simp at hq; omega))⟩
      case measure => simp [intOf]
    · clear f4 p4
      go_wp2
      go_ret
      exact ⟨G, rfl, hGF, ⟨cur, HBK.out⟩, HB4.out⟩
end Go.Proofs.YteeembildppgmaaGreat
