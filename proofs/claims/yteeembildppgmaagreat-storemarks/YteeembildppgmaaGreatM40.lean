/- A part of it: SMkT SAwP SAwake. -/
import Derived.Test.YteeembildppgmaaGreatM39
import Derived.Lib.SlBytesConst
namespace Go.Proofs.YteeembildppgmaaGreat
open Go.RowKit
set_option linter.unusedVariables false
set_option linter.unusedSimpArgs false
section
variable {w0 w w' : World} {s : Nat} {c : Cf} {xs tb : List Nat} {ov : Value} {ps : List Nat} {uvs : List Value} {S : St} {T : Tn} {V : Nat → List UInt8} {rs : List Enc.Rc} {Ms : List (Nat × Dt)} {TB WB : Nat}
theorem mk_write (h : StIs w0 w s c xs tb ov ps uvs S) (I : MkI c S T V rs Ms TB WB) (L : MkL T rs Ms) (hn : c.n = 190) (hT : TB ≤ 10000) (hW : WB ≤ 10000) (pg off : Nat) (hp : pg < 3) (ho : off ≤ 255) (da : Option Addr) (n dc : Nat) (bs : List UInt8) (hl : bs.length = n) (h60 : n ≤ 60) (hd : n ≤ dc) (hm : dc ≤ maxLen)
    (hr : 0 < n → ∃ g o, da = some ⟨g, o, none⟩ ∧ g < w0.heap.size ∧ w.rangeAt g o (secCells bs)) :
    Calls Tryz.prog 13 #[.pointer (some ⟨s, 0, none⟩), .int .i64 1, .int .i64 (pg : Int), .int .i64 (off : Int), .slice da n dc] w fun e w' => e = .returned (.int .i64 0) ∧ ∃ S' T' V' rs', StAt w0 w' s c xs S' ∧ MkI c S' T' V' rs' Ms (TB + 372) (WB + 5) ∧ MkL T' rs' Ms ∧ Kept xs w w' := by
  have hTx : S.txs[0]? = some T := by rw [I.txs]; rfl
  obtain ⟨gg, x, uv, vs, cc, hov, hx, hu, t, hcell⟩ := h.txAt 0 _ hTx
  have hno : ∀ (j : Nat) U, j < 0 → S.txs[j]? = some U → U.id ≠ T.id := fun j U hj => by omega
  have hid : (1 : Int) = (T.id : Int) := by rw [I.id]; rfl
  have hbz := fun k => busy_one h (by rw [I.txs]; rfl) x hx (pg : Int) (off : Int) k
  have hwb := I.wb
  have htb := I.tb
  have hla := I.last
  rcases Nat.eq_zero_or_pos n with h0 | h0
  · subst h0
    refine (swrite_zero h hx hTx hu hno 1 hid pg off da dc (by omega) (by omega) (hbz 0)).mono ?_
    rintro e w' ⟨rfl, hb⟩
    exact ⟨rfl, S, T, V, rs, (h.belowW hb).at, I.mono (by omega) (by omega), L, ⟨hb.size, fun k hk => hb.block k (h.lt hk)⟩⟩
  · obtain ⟨g, o, rfl, hg, hrg⟩ := hr h0
    have hby : ByteSrc w0 w xs g o dc bs := ⟨by rw [hl]; exact hd, hm, .inr hg, hrg⟩
    have hres : S.res = 192 + resU T.ups := by show resT S.txs = _; rw [I.txs]; simp [resT, Tn.res]
    have hroom : 192 + 3 * n + S.res + 2048 ≤ S.R.room := by rw [I.roomE, hres]; omega
    by_cases hq : ((V pg).drop (8 + off)).take n = bs
    · refine (swrite_eq h hx hTx hu hno I.inv (by omega) 1 hid pg off n g o dc bs hl hby (by omega) h0 (by omega) (by rw [hres]; omega) hroom (by rw [I.id]; omega) (by omega) (hbz _) hq).mono ?_
      rintro e w' ⟨rfl, pl, k1, k2, k3, k4, k5, k6⟩
      exact ⟨rfl, _, T, V, rs, k1, (I.read k2 k3 k4).mono (by omega) (by omega), L, k6⟩
    · refine (swrite_ne h hx hTx hu hno I.inv (by omega) 1 hid pg off n g o dc bs hl hby (by omega) h0 (by omega) (by rw [hres]; omega) hroom (by rw [I.id]; omega) (by omega) (hbz _) hq).mono ?_
      rintro e w' ⟨rfl, pl, k1, k2, k3, k4, k5, k6⟩
      subst hl
      obtain ⟨T', V', rs', I', L'⟩ := I.wrote L (by omega) (by omega) pg off bs (by omega) h0 (by omega) k2 k3 k4
      exact ⟨rfl, _, T', V', rs', k1, I'.mono (by omega) (Nat.le_refl _), L', k6⟩
theorem mk_back (h : StIs w0 w s c xs tb ov ps uvs S) (I : MkI c S T V rs Ms TB WB) (hn : c.n = 190) (hT : TB ≤ 10000) (hW : WB ≤ 10000) (m : Nat) (Dm : Dt) (hm : (m, Dm) ∈ Ms) (hl : ∀ x ∈ Ms, x.1 ≤ m) :
    Calls Tryz.prog 14 #[.pointer (some ⟨s, 0, none⟩), .int .i64 1, .int .i64 (m : Int)] w fun e w' => e = .returned (.int .i64 0) ∧ ∃ S' T' V' rs', StAt w0 w' s c xs S' ∧ MkI c S' T' V' rs' Ms TB WB ∧ dat V' = Dm ∧ Kept xs w w' := by
  have hwb := I.wb
  have htb := I.tb
  have hla := I.last
  have hs := rise_split T.ups m I.rise
  have hlen := length_resU T.ups
  have esum : resU T.ups = resU (upTo m T.ups) + resU (behind m T.ups) := by conv => lhs; rw [hs, resU_append]
  have elen : T.ups.length = (upTo m T.ups).length + (behind m T.ups).length := by conv => lhs; rw [hs, List.length_append]
  obtain ⟨j, R, hj, hR, hjm⟩ := I.recs _ hm
  refine (back_one h I.txs (upTo m T.ups) (behind m T.ups) hs I.inv (fun u hu => I.ok u (List.mem_filter.1 hu).1) (by rw [I.roomE]; omega) (by rw [I.id]; omega) (by omega) (by omega) (by omega) 1 (by rw [I.id]; rfl) rs I.held I.good j R hj (by rw [I.id]; exact hR) m (by rw [I.start, Nat.zero_add]; exact hjm) (fun u hu => by have := (List.mem_filter.1 hu).2; simpa using this) (fun u hu => by have := (List.mem_filter.1 hu).2; simpa using this)).mono ?_
  rintro e w' ⟨rfl, pl, k1, k2, k3, k4, k5, k6⟩
  obtain ⟨T', V', rs', I', hD⟩ := I.back (by omega) (by omega) m Dm hm hl k2 k5 k3
  exact ⟨rfl, _, T', V', rs', k1, I', hD, k6⟩
theorem mk_area (h : StIs w0 w s c xs tb ov ps uvs S) (I : MkI c S T V rs Ms TB WB) (hn : c.n = 190) (hW : WB ≤ 10000) :
    Calls Tryz.prog 12 #[.pointer (some ⟨s, 0, none⟩), .int .i64 3] w fun e w' => e = .returned (.tuple #[.string (strOf (areaN (dat V) 3)), .bool true]) ∧ ∃ S', StIs w0 w' s c xs tb ov ps uvs S' ∧ MkI c S' T V rs Ms TB (WB + 3) ∧ Kept xs w w' := by
  have hwb := I.wb
  refine (area_ok h I.inv (by omega) (by omega)).mono ?_
  rintro e w' ⟨rfl, ⟨pl, k1, k2, k3, k4, k5⟩, kk⟩
  exact ⟨rfl, _, k1, I.read k2 k3 k4, kk.mono (fun k hk => by simp [hk])⟩
theorem mk_commit (h : StIs w0 w s c xs tb ov ps uvs S) (I : MkI c S T V rs Ms TB WB) (hT : TB ≤ 10000) :
    Calls Tryz.prog 15 #[.pointer (some ⟨s, 0, none⟩), .int .i64 1] w fun e w' => e = .returned (.int .i64 0) ∧ Below w0.heap.size w0 w' := by
  have htb := I.tb
  have hla := I.last
  refine (commit_one h (by rw [I.txs]; rfl) (T := T) (by rw [I.txs]; rfl) (by rw [I.roomE]; omega) (by rw [I.id]; omega) (by omega) (by omega) (by rw [I.com]; omega) 1 (by rw [I.id]; rfl)).mono ?_
  rintro e w' ⟨rfl, R', _, k1, _⟩
  exact ⟨rfl, k1.below⟩
end
end Go.Proofs.YteeembildppgmaaGreat
namespace Go.Proofs.YteeembildppgmaaGreat
open Go.RowKit
set_option linter.unusedVariables false
set_option linter.unusedSimpArgs false
def awR : List Enc.Rc := [beginRc 1, { updRc 0 0 [0, 0] [97, 98] with txn := 1, prev := 1 }, { bareRc 5 with txn := 1, prev := 97 }, { (⟨97, 1, 0, 0, [0, 0]⟩ : Up).rc with txn := 1, prev := 197 }, { bareRc 6 with txn := 1, prev := 293 }]
def awT : Tn := ⟨1, 1, 97, [⟨97, 1, 0, 0, [0, 0]⟩]⟩
def awV1 : Nat → List UInt8 := fun q => if q = 0 then patch (patch (V0 0) 0 (be8 97)) 8 [97, 98] else V0 q
section
variable {w0 w w' : World} {s g : Nat} {c : Cf}
theorem aw_inv (hn : c.n = 94) (R : Rg) : PInv c.n { (St.new 512 64).pool with fo := (R, (St.new 512 64).pool.fo.2) } V0 := by
  have h := made_inv 512 64 (by omega) (by omega)
  rw [hn]
  exact ⟨h.dl, h.v5, h.un, h.he, h.inj, h.out, h.hand⟩
theorem aw_begin (h : StIs w0 w s c [] [] (.slice none 0 0) [] [] (St.new 512 64)) :
    Calls Tryz.prog 10 #[.pointer (some ⟨s, 0, none⟩)] w fun e w' => e = .returned (.tuple #[.int .i64 1, .int .i64 0]) ∧ StAt w0 w' s c [] (St.new 512 64).begun := by
  refine (begin_ok h (by show resT [] ≤ _; decide) (by show 288 + resT [] + 2048 ≤ (0 / 118 + 128 - 1) * 118 - 0; decide) (by show 1 ≤ _; omega) (by show 0 < _; omega)).mono ?_
  rintro e w' ⟨rfl, h1, _⟩
  exact ⟨rfl, h1⟩
theorem len_begin : (beginRc 1).enc.length = 96 := by rw [Enc.length_enc]; rfl
theorem len_upd : ({ updRc 0 0 [0, 0] [97, 98] with txn := 1, prev := 1 } : Enc.Rc).enc.length = 100 := by rw [Enc.length_enc]; rfl
theorem aw_tail : (St.new 512 64).begun.R.tail = 96 := by
  show 0 + ([] ++ (beginRc 1).enc).length = 96
  rw [List.nil_append, len_begin]
theorem take_V0 : ((V0 0).drop (8 + 0)).take 2 = [0, 0] := by
  unfold V0 zerosN
  rw [List.drop_replicate, List.take_replicate]
  rfl
set_option maxRecDepth 100000 in
theorem aw_write {fr : Nat × Nat} (h : StAt w0 w s c [g] (St.new 512 64).begun) (hn : c.n = 94) (hg : w.heap[g]? = some (.cells #[.int .u8 97, .int .u8 98] 5 fr)) :
    Calls Tryz.prog 13 #[.pointer (some ⟨s, 0, none⟩), .int .i64 1, .int .i64 0, .int .i64 0, .slice (some ⟨g, 0, none⟩) 2 2] w fun e w' => e = .returned (.int .i64 0) ∧
      ∃ S, StAt w0 w' s c [g] S ∧ S.txs = [awT] ∧ PInv c.n S.pool awV1 ∧ S.pool.wr ≤ 3 ∧ S.R.held = encs (awR.take 2) ∧ S.R.start = 0 ∧ S.R.n = 128 := by
  obtain ⟨tb, ov, ps, uvs, h⟩ := h
  have hT : (St.new 512 64).begun.txs[0]? = some ⟨1, 1, 1, []⟩ := rfl
  obtain ⟨gg, x, uv, vs, cc, hov, hx, hu, t, hcell⟩ := h.txAt 0 _ hT
  have hrg : w.rangeAt g 0 (secCells [97, 98]) := rng_block (t := 5) (fr := fr) hg
  refine (swrite_ne h hx hT hu (fun j U hj => by omega) (aw_inv hn _) (by show 0 + 3 ≤ _; omega) 1 rfl 0 0 2 g 0 2 [97, 98] rfl ⟨Nat.le_refl _, by decide, .inl (by simp), hrg⟩ (by rw [hn]; omega) (by omega) (by omega) (by show resT [⟨1, 1, 1, []⟩] ≤ _; decide) ?_ (by show 1 ≤ _; omega) (by show 1 ≤ _; omega) (busy_one h rfl x hx _ _ _) (by rw [take_V0]; decide)).mono ?_
  · show 192 + 3 * 2 + resT [⟨1, 1, 1, []⟩] + 2048 ≤ (0 / 118 + 128 - 1) * 118 - (St.new 512 64).begun.R.tail
    rw [aw_tail]
    decide
  · rw [take_V0, aw_tail]
    rintro e w' ⟨rfl, pl, h1, h2, ⟨f, hf⟩, h4, _, _⟩
    refine ⟨rfl, _, h1, rfl, h2, h4, ?_, ?_, ?_⟩
    · show pl.fo.1.held = _
      rw [hf]
      rfl
    · show pl.fo.1.start = _
      rw [hf]
      rfl
    · show pl.fo.1.n = _
      rw [hf]
      rfl
def awV2 : Nat → List UInt8 := rbV [⟨97, 1, 0, 0, [0, 0]⟩] 292 awV1
theorem len_two : (encs (awR.take 2)).length = 196 := by
  show ((beginRc 1).enc ++ (({ updRc 0 0 [0, 0] [97, 98] with txn := 1, prev := 1 } : Enc.Rc).enc ++ [])).length = 196
  rw [List.append_nil, List.length_append, len_begin, len_upd]
theorem aw_roll {S : St} (h : StAt w0 w s c [g] S) (hn : c.n = 94) (h1 : S.txs = [awT]) (h2 : PInv c.n S.pool awV1) (h3 : S.pool.wr ≤ 3) (h4 : S.R.held = encs (awR.take 2)) (h5 : S.R.start = 0) (h6 : S.R.n = 128) :
    Calls Tryz.prog 26 #[.pointer (some ⟨s, 0, none⟩), .int .i64 1] w fun e w' => e = .returned (.int .i64 0) ∧
      ∃ S, StAt w0 w' s c [g] S ∧ S.txs = [] ∧ PInv c.n S.pool awV2 ∧ S.pool.wr ≤ 5 ∧ S.R.held = encs awR ∧ S.R.start = 0 := by
  obtain ⟨tb, ov, ps, uvs, h⟩ := h
  have ht : S.R.tail = 196 := by unfold Rg.tail; rw [h4, h5, len_two]
  refine (rollback_one h h1 h2 (fun u hu => by simp only [awT, List.mem_singleton] at hu; subst hu; exact ⟨by rw [hn]; show 0 < 94; omega, by show 1 ≤ 2; omega, by show 0 + 2 ≤ 504; omega, by show 1 ≤ _; omega⟩) (by show 192 + resU awT.ups ≤ (S.R.start / 118 + S.R.n - 1) * 118 - S.R.tail; rw [ht, h5, h6]; decide) (by show 1 ≤ _; omega) (by show 97 ≤ _; omega) (by show S.pool.wr + 2 * 1 ≤ _; omega) 1 rfl).mono ?_
  rw [ht]
  rintro e w' ⟨rfl, pl, k1, k2, k3, _, ⟨f, hf⟩, _⟩
  refine ⟨rfl, _, k1, rfl, k2, by show pl.wr ≤ 5; have : pl.wr ≤ S.pool.wr + 2 * 1 := k3; omega, ?_, ?_⟩
  · show pl.fo.1.held = _
    rw [hf]
    show S.R.held ++ _ ++ _ ++ _ = _
    rw [h4]
    simp only [awR, encs, List.take, List.flatMap_cons, List.flatMap_nil, List.append_nil, List.append_assoc]
    rfl
  · show pl.fo.1.start = _
    rw [hf]
    exact h5
theorem take_V2 : ((awV2 0).drop (8 + 0)).take 2 = [0, 0] := by
  have hl : (awV1 0).length = 512 := by
    show (patch (patch (V0 0) 0 (be8 97)) 8 [97, 98]).length = 512
    have h0 : (V0 0).length = 512 := length_zerosN 512
    have h1 : (patch (V0 0) 0 (be8 97)).length = 512 := by rw [length_patch _ _ _ (by rw [h0, length_be8]; omega)]; exact h0
    rw [length_patch _ _ _ (by rw [h1]; decide)]
    exact h1
  show ((patch (patch (awV1 0) 0 (be8 293)) 8 [0, 0]).drop 8).take 2 = [0, 0]
  have h2 : (patch (awV1 0) 0 (be8 293)).length = 512 := by rw [length_patch _ _ _ (by rw [hl, length_be8]; omega)]; exact hl
  unfold patch at h2 ⊢
  rw [List.drop_append_of_le_length (by rw [List.length_take, h2]; decide), List.drop_eq_nil_of_le (by rw [List.length_take, h2]; decide)]
  rfl
theorem aw_read {S : St} (h : StAt w0 w s c [g] S) (hn : c.n = 94) (h1 : S.txs = []) (h2 : PInv c.n S.pool awV2) (h3 : S.pool.wr ≤ 5) (h4 : S.R.held = encs awR) (h5 : S.R.start = 0) :
    Calls Tryz.prog 24 #[.pointer (some ⟨s, 0, none⟩), .int .i64 0, .int .i64 0, .int .i64 2] w fun e w' => ∃ g2, e = .returned (.tuple #[.slice (some ⟨g2, 0, none⟩) 2 2, .int .i64 0]) ∧ w'.heap[g2]? = some (.cells #[.int .u8 0, .int .u8 0] 5 (0, 0)) ∧
      ∃ S, StAt w0 w' s c [g2, g] S ∧ S.txs = [] ∧ S.R.held = encs awR ∧ S.R.start = 0 := by
  obtain ⟨tb, ov, ps, uvs, h⟩ := h
  refine (sread_ok h h2 (by omega) 0 0 2 (by rw [hn]; omega) (by omega) (by omega)).mono ?_
  rw [take_V2]
  rintro e w' ⟨g2, rfl, _, k1, k2, _⟩
  obtain ⟨f, hf⟩ := (h2.get 0 (by rw [hn]; omega)).2.2.rs
  refine ⟨g2, rfl, k1, _, k2.at, h1, ?_, ?_⟩
  · show (cGet c S.pool 0).2.2.fo.1.held = _
    rw [hf]
    exact h4
  · show (cGet c S.pool 0).2.2.fo.1.start = _
    rw [hf]
    exact h5
theorem aw_good : ∀ R ∈ awR, R.good := by
  intro R hR
  simp only [awR, List.mem_cons, List.not_mem_nil, or_false] at hR
  rcases hR with rfl | rfl | rfl | rfl | rfl
  all_goals exact ⟨fun x hx => (by
    simp only [Enc.Rc.head, beginRc, updRc, bareRc, Up.rc, List.mem_cons, List.not_mem_nil, or_false] at hx
    unfold Enc.fits
    omega), fun t ht => (by cases ht), fun t ht => (by cases ht), (by show Enc.fits 0; unfold Enc.fits; omega)⟩
theorem aw_log {S : St} {xs : List Nat} (h : StAt w0 w s c xs S) (h4 : S.R.held = encs awR) (h5 : S.R.start = 0) :
    Calls Tryz.prog 43 #[.pointer (some ⟨s, 0, none⟩)] w fun e w' => ∃ b cap, e = .returned (.slice (some ⟨b, 0, none⟩) 5 cap) ∧ w'.cell? ⟨b, 0, none⟩ = some (.int .i64 1) ∧ w'.cell? ⟨b, 49, none⟩ = some (.int .i64 6) ∧ Below w.heap.size w w' := by
  obtain ⟨tb, ov, ps, uvs, h⟩ := h
  refine (log_ok h awR h4 aw_good).mono ?_
  rintro e w' ⟨l, rfl, k1, k2⟩
  obtain ⟨qs, hq, ho, _⟩ := k1.is
  rw [h5] at ho
  obtain ⟨q0, q1, q2, q3, q4, rfl⟩ : ∃ q0 q1 q2 q3 q4, qs = [q0, q1, q2, q3, q4] := by
    match qs, hq with
    | [q0, q1, q2, q3, q4], _ => exact ⟨q0, q1, q2, q3, q4, rfl⟩
  rcases ho.2 with ⟨_, h0⟩ | ⟨b, cap, cur, rfl, _, hb, _, _, _, htk⟩
  · cases h0
  · have key : ∀ (k : Nat) (v : Value), k < 60 → (linesRow 0 awR [q0, q1, q2, q3, q4])[k]? = some v → w'.cell? ⟨b, k, none⟩ = some v := fun k v hk hv => by
      rw [cell_of_row w' b k _ _ _ hb]
      rw [← htk, List.getElem?_take_of_lt (by show k < 5 * 12; omega)] at hv
      simpa using hv
    exact ⟨b, cap, rfl, key 0 _ (by omega) rfl, key 49 _ (by omega) rfl, k2⟩
set_option maxHeartbeats 400000 in
theorem swrite_none {S : St} {xs : List Nat} (h : StAt w0 w s c xs S) (h1 : S.txs = []) (pg off : Int) (v : Value) :
    Calls Tryz.prog 13 #[.pointer (some ⟨s, 0, none⟩), .int .i64 9, .int .i64 pg, .int .i64 off, v] w fun e w' => e = .returned (.int .i64 61) ∧ w' = w := by
  obtain ⟨tb, ov, ps, uvs, h⟩ := h
  have HF := hide (sfind_no h 9 (fun j U hU => by rw [h1] at hU; simp at hU))
  clear h
  go_enter Tryz.func13, Tryz.ntmps13
  go_wp2_with (go_at_call 31; refine HF.out.mono ?_; rintro e w' ⟨rfl, hw⟩; have hw := hw.symm; subst hw)
  go_ret
  exact ⟨rfl, rfl⟩
end
end Go.Proofs.YteeembildppgmaaGreat
namespace Go.Proofs.YteeembildppgmaaGreat
open Go.RowKit
set_option linter.unusedVariables false
set_option linter.unusedSimpArgs false
set_option maxHeartbeats 4000000 in
set_option maxRecDepth 100000 in
theorem awake_true (w : World) : Calls Tryz.prog 16 #[] w fun e w' => e = .returned (.bool true) ∧ Below w.heap.size w w' := by
  have HO := hide (lopen_new (N := 512) (m := 64) w (by omega) (by omega) (by omega) (by omega))
  have hcv := fun (w : World) (C : Array Value) (n c : Nat) => Go.Lib.run_convert_bytes_const (P := Tryz.prog) w 36 5 C n c Tryz.underlying36 Tryz.underlying5
  go_enter Tryz.func16, Tryz.ntmps16
  go_wp2_with (first
    | (go_at_call 9; refine HO.out.mono ?_; rintro e W1 ⟨s, c, rfl, _, hn, h⟩; have HN := hide (show c.n = 94 from hn); have HB := hide (aw_begin h); clear h hn HO)
    | (go_at_call 10; refine HB.out.mono ?_; rintro e W2 ⟨rfl, h⟩
       have HW := hide (aw_write (g := W2.heap.size) (h.mindNew (w' := W2.alloc (.cells #[.int .u8 97, .int .u8 98] 5 (2, 3))) (((Off.refl [] W2).alloc _).below (Nat.le_refl _) (by simp)) (fun k hk => by simp only [List.mem_singleton] at hk; subst hk; exact .inr ⟨Nat.le_refl _, by simp⟩)) HN.out (World.alloc_heap_new _ _))
       clear h HB)
    | (go_at_call 13; refine HW.out.mono ?_; rintro e W3 ⟨rfl, S2, h, a1, a2, a3, a4, a5, a6⟩; have HR := hide (aw_roll h HN.out a1 a2 a3 a4 a5 a6); clear h a1 a2 a3 a4 a5 a6 HW)
    | (go_at_call 26; refine HR.out.mono ?_; rintro e W4 ⟨rfl, S3, h, a1, a2, a3, a4, a5⟩; have HD := hide (aw_read h HN.out a1 a2 a3 a4 a5); clear h a1 a2 a3 a4 a5 HR)
    | (go_at_call 24; refine HD.out.mono ?_; rintro e W5 ⟨g2, rfl, hg2, S4, h, a1, a4, a5⟩; have HL := hide (aw_log h a4 a5); have H5 := hide (And.intro hg2 (And.intro a1 h)); clear h hg2 a1 a4 a5 HD)
    | (go_at_call 43; refine HL.out.mono ?_; rintro e W6 ⟨b, cap, rfl, l0, l49, hb6⟩
       have hst : (convert 36 9 (.slice (some ⟨g2, 0, none⟩) 2 2)).run Tryz.prog W6 = .ok (.string ⟨#[0, 0]⟩) W6 := run_strAt W6 g2 0 2 2 [0, 0] rfl (rng_block (t := 5) (fr := (0, 0)) ((hb6.block g2 (Array.getElem?_eq_some_iff.1 H5.out.1).1).trans H5.out.1))
       have H6 := hide (H5.out.2.2.belowW hb6)
       have HY : Hid (Calls Tryz.prog 17 #[.int .i64 128] W6 fun e w' => e = .returned (.tuple #[.int .i64 32, .int .i64 22]) ∧ w' = W6) := layout_any W6 128 (by omega) (by omega)
       have h7 : StAt w (W6.alloc (.cells #[.int .u8 97] 5 (1, 2))) s c [g2, W2.heap.size] S4 := H6.out.belowW (((Off.refl [] W6).alloc _).below (Nat.le_refl _) (by simp))
       have HWN := hide (swrite_none h7 H5.out.2.1 0 0 (.slice (some ⟨W6.heap.size, 0, none⟩) 1 1))
       have HBW : Hid (Below w.heap.size w (W6.alloc (.cells #[.int .u8 97] 5 (1, 2)))) := let ⟨_, _, _, _, y⟩ := h7; y.below
       have HPG : Hid (Calls Tryz.prog 44 #[.pointer (some ⟨s, 0, none⟩)] (W6.alloc (.cells #[.int .u8 97] 5 (1, 2))) fun e w' => e = .returned (.int .i64 94) ∧ w' = W6.alloc (.cells #[.int .u8 97] 5 (1, 2))) := by
         obtain ⟨tb, ov, ps, uvs, h8⟩ := h7
         have := spages_ok h8
         rw [HN.out] at this
         exact this
       clear h7
       clear hb6 HL)
    | (go_at_call 13; refine HWN.out.mono ?_; rintro e w9 ⟨rfl, hw9⟩; subst hw9)
    | (go_at_call 44; refine HPG.out.mono ?_; rintro e w9 ⟨rfl, hw9⟩; subst hw9)
    | (go_at_call 17; refine HY.out.mono ?_; rintro e w9 ⟨rfl, hw9⟩; have hw9 := hw9.symm; subst hw9))
  go_ret
  exact ⟨rfl, HBW.out⟩
end Go.Proofs.YteeembildppgmaaGreat
