/- A part of it: SRes STell. -/
import Derived.Test.YteeembildppgmaaGreatM0
import Derived.Test.YteeembildppgmaaGreatM19
namespace Go.Proofs.YteeembildppgmaaGreat
open Go.RowKit
set_option linter.unusedVariables false
set_option linter.unusedSimpArgs false
def Up.sz (u : Up) : Nat := 96 + u.after.length
def resU (l : List Up) : Nat := (l.map Up.sz).sum
def Tn.res (T : Tn) : Nat := 192 + resU T.ups
def resT (l : List Tn) : Nat := (l.map Tn.res).sum
def St.res (S : St) : Nat := resT S.txs
theorem sum_take {α : Type} (f : α → Nat) : ∀ (l : List α) (k : Nat) (x : α), l[k]? = some x → ((l.take (k + 1)).map f).sum = ((l.take k).map f).sum + f x
 | [], k, x, h => by simp at h
 | y :: r, 0, x, h => by simp at h; simp [h]
 | y :: r, k + 1, x, h => by
   have := sum_take f r k x (by simpa using h)
   simp only [List.take_succ_cons, List.map_cons, List.sum_cons] at this ⊢
   omega
theorem sum_take_le {α : Type} (f : α → Nat) : ∀ (l : List α) (k : Nat), ((l.take k).map f).sum ≤ (l.map f).sum
 | [], k => by simp
 | y :: r, 0 => by simp
 | y :: r, k + 1 => by
   have := sum_take_le f r k
   simp only [List.take_succ_cons, List.map_cons, List.sum_cons]
   omega
theorem length_resU : ∀ l : List Up, l.length ≤ resU l
 | [] => Nat.zero_le _
 | u :: r => by
   have := length_resU r
   have h : resU (u :: r) = u.sz + resU r := by simp [resU]
   have h2 : u.sz = 96 + u.after.length := rfl
   rw [List.length_cons]
   omega
theorem TxIs.c0 {w : World} {tb : List Nat} {x : Nat} {T : Tn} {uv : Value} {vs : List Value} (h : TxIs w tb x T uv vs) : w.cell? ⟨x, 0, none⟩ = some (.int .i64 (T.id : Int)) := by rw [cell_of_row w x 0 _ _ _ h.head]; rfl
theorem TxIs.c1 {w : World} {tb : List Nat} {x : Nat} {T : Tn} {uv : Value} {vs : List Value} (h : TxIs w tb x T uv vs) : w.cell? ⟨x, 1, none⟩ = some (.int .i64 (T.begin : Int)) := by rw [cell_of_row w x 1 _ _ _ h.head]; rfl
theorem TxIs.c2 {w : World} {tb : List Nat} {x : Nat} {T : Tn} {uv : Value} {vs : List Value} (h : TxIs w tb x T uv vs) : w.cell? ⟨x, 2, none⟩ = some (.int .i64 (T.last : Int)) := by rw [cell_of_row w x 2 _ _ _ h.head]; rfl
theorem TxIs.c3 {w : World} {tb : List Nat} {x : Nat} {T : Tn} {uv : Value} {vs : List Value} (h : TxIs w tb x T uv vs) : w.cell? ⟨x, 3, none⟩ = some uv := by rw [cell_of_row w x 3 _ _ _ h.head]; rfl
theorem TxIs.fz {w : World} {tb : List Nat} {x : Nat} {T : Tn} {uv : Value} {vs : List Value} (h : TxIs w tb x T uv vs) (o : Nat) : w.frozen? ⟨x, o, none⟩ = false := frozen_of_row w x o _ _ h.head
theorem TxIs.uvlen {w : World} {tb : List Nat} {x : Nat} {T : Tn} {uv : Value} {vs : List Value} (h : TxIs w tb x T uv vs) : ∃ ao cc, uv = .slice ao T.ups.length cc := by
 rcases h.ups.2 with ⟨h1, h2⟩ | ⟨g, cap, cur, h1, _⟩
 · exact ⟨none, 0, by rw [h1, h2]⟩
 · exact ⟨_, _, h1⟩
theorem TxIs.upAt {w : World} {tb : List Nat} {x : Nat} {T : Tn} {uv : Value} {vs : List Value} (h : TxIs w tb x T uv vs) (j : Nat) (u : Up) (hj : T.ups[j]? = some u) : ∃ g cap gv cv, uv = .slice (some ⟨g, 0, none⟩) T.ups.length cap ∧ vs[j]? = some (.slice (some ⟨gv, 0, none⟩) u.after.length cv) ∧ u.after.length ≤ cv ∧ cv ≤ 504 ∧ gv ∈ tb ∧ SrcAt w gv 0 u.after ∧
 ∀ k, k < 12 → w.cell? ⟨g, j * 12 + k, none⟩ = (upCells u (.slice (some ⟨gv, 0, none⟩) u.after.length cv))[k]? := by
 obtain ⟨hlt, rfl⟩ := List.getElem?_eq_some_iff.1 hj
 have hv : j < vs.length := by rw [h.vlen]; exact hlt
 obtain ⟨gv, cv, e1, e2, e3, e4, e5, _⟩ := h.byt j _ _ hj (List.getElem?_eq_getElem hv)
 rcases h.ups.2 with ⟨h1, h2⟩ | ⟨g, cap, cur, h1, _, h3, h4, h5, h6, h7⟩
 · omega
 · refine ⟨g, cap, gv, cv, h1, by rw [← e1]; exact List.getElem?_eq_getElem hv, e2, e3, e4, e5, fun k hk => ?_⟩
   have := upsRow_get T.ups vs h.vlen j hlt k hk
   rw [e1] at this
   rw [← this, cell_of_row w g _ _ _ _ h3, ← h7, List.getElem?_take_of_lt (by omega)]
   simp
theorem sl_of_src {w : World} {g n c : Nat} {bs : List UInt8} (h : SrcAt w g 0 bs) (hn : bs.length = n) (hc : n ≤ c) (hm : c ≤ 504) : Enc.Sl w (.slice (some ⟨g, 0, none⟩) n c) bs := by
 subst hn
 exact ⟨_, _, rfl, hc, by simp only [maxLen]; omega, fun _ => ⟨g, 0, rfl, fun j u hu => by
  have := h.2 j u hu
  rw [Addr.add_mid] at this
  exact this⟩⟩
theorem rec_of_up {w : World} {u : Up} {g c : Nat} (h : SrcAt w g 0 u.after) (hc : u.after.length ≤ c) (hm : c ≤ 504) : Enc.RecVal w (.agg #[.int .i64 3, .int .i64 0, .int .i64 0, .int .i64 (u.next : Int), .int .i64 (u.page : Int), .int .i64 (u.off : Int), .slice none 0 0, .slice (some ⟨g, 0, none⟩) u.after.length c, .slice none 0 0, .slice none 0 0, .int .i64 0]) u.rc :=
 ⟨_, _, _, _, rfl, Enc.Row.nil w, sl_of_src h rfl hc hm, Enc.Row.nil w, Enc.Row.nil w⟩
section
variable {w0 w w' : World} {s : Nat} {c : Cf} {xs tb : List Nat} {ov : Value} {ps : List Nat} {uvs : List Value} {S : St}
set_option maxHeartbeats 2000000 in
set_option maxRecDepth 100000 in
theorem reserved_any (h : StIs w0 w s c xs tb ov ps uvs S) (hb : S.res ≤ 1000000000) : Calls Tryz.prog 85 #[.pointer (some ⟨s, 0, none⟩)] w fun e w' => e = .returned (.int .i64 (S.res : Int)) ∧ Below w.heap.size w w' := by
 obtain ⟨ao, cc, rfl⟩ := h.ovlen
 have c4 := h.c4
 have H := hide h
 have HR := hide hb
 clear h hb
 go_enter Tryz.func85, Tryz.ntmps85
 go_wp2
 go_loopw [13, 3] (fun i a wr => ∃ k : Nat, k ≤ S.txs.length ∧ i = .int .i64 k ∧ a = .int .i64 (resT (S.txs.take k) : Nat) ∧ Below w.heap.size w wr) (fun i _ _ => S.txs.length - (intOf i).toNat)
 case atStart => exact ⟨0, by omega, rfl, by simp [resT], Below.refl _ _⟩
 case round =>
  obtain ⟨k, hk, rfl, rfl, hB⟩ := hrel
  have HB := hide hB
  clear hB
  have hfew := H.out.few
  have hsum : resT (S.txs.take k) ≤ 1000000000 := Nat.le_trans (sum_take_le _ _ _) HR.out
  by_cases hlt : k < S.txs.length
  · obtain ⟨T, hT⟩ : ∃ T, S.txs[k]? = some T := ⟨_, List.getElem?_eq_getElem hlt⟩
    have HS1 : Hid (resT (S.txs.take (k + 1)) = resT (S.txs.take k) + T.res) := sum_take _ _ _ _ hT
    have HS2 : Hid (resT (S.txs.take k) + T.res ≤ 1000000000) := by
     show _ ≤ _
     rw [← HS1.out]
     exact Nat.le_trans (sum_take_le _ _ _) HR.out
    obtain ⟨g, x, uv, vs, cc', hov, hx, hu, t, hcell⟩ := (H.out.belowW HB.out).txAt k T hT
    injection hov with e1 e2 e3
    subst e1
    obtain ⟨ua, uc, rfl⟩ := t.uvlen
    have x3 := t.c3
    have HT := hide t
    obtain ⟨A, hA⟩ : ∃ A, resT (S.txs.take k) = A := ⟨_, rfl⟩
    obtain ⟨M, hM⟩ : ∃ M, T.ups.length = M := ⟨_, rfl⟩
    rw [hA] at HS1 HS2 hsum ⊢
    rw [hM] at x3
    have HM := hide hM
    have hA192 : A + 192 ≤ 1000000000 := by have := HS2.out; have : T.res = 192 + resU T.ups := rfl; omega
    have hMb : M ≤ 1000000000 := by have h1 := length_resU T.ups; have := HS2.out; have : T.res = 192 + resU T.ups := rfl; omega
    clear t hx hu e2 e3 hA hM hT
    go_wp2
    go_loopw [24, 3] (fun j a wq => ∃ m : Nat, m ≤ M ∧ j = .int .i64 m ∧ a = .int .i64 (A + 192 + resU (T.ups.take m) : Nat) ∧ Below w.heap.size w wq ∧ Below wr.heap.size wr wq) (fun j _ _ => M - (intOf j).toNat)
    case atStart => exact ⟨0, by omega, rfl, by simp [resU], HB.out, Below.refl _ _⟩
    case round =>
     obtain ⟨m, hm, rfl, rfl, hB1, hB2⟩ := hrel
     have HB1 := hide hB1
     have HB2 := hide hB2
     clear hB1 hB2
     by_cases hml : m < M
     · obtain ⟨u, hu⟩ : ∃ u, T.ups[m]? = some u := ⟨_, List.getElem?_eq_getElem (by rw [HM.out]; exact hml)⟩
       have HU1 : Hid (resU (T.ups.take (m + 1)) = resU (T.ups.take m) + u.sz) := sum_take _ _ _ _ hu
       have hU2 : A + 192 + (resU (T.ups.take m) + u.sz) ≤ 1000000000 := by
        rw [← HU1.out]
        have h1 : resU (T.ups.take (m + 1)) ≤ resU T.ups := sum_take_le _ _ _
        have h2 := HS2.out
        have h3 : T.res = 192 + resU T.ups := rfl
        omega
       obtain ⟨g2, cap, gv, cv, e1, e2, e3, e4, e5, e6, e7⟩ := (HT.out.keep (tb' := tb) HB2.out.size (fun k hk => ⟨hk, HB2.out.block k ((H.out.belowW HB.out).lts (by simp [hk]))⟩)).upAt m u hu
       rw [HM.out] at e1
       injection e1 with e1 e8 e9
       subst e1
       subst e9
       clear e8
       have d0 := e7 0 (by omega)
       have d1 := e7 1 (by omega)
       have d2 := e7 2 (by omega)
       have d3 := e7 3 (by omega)
       have d4 := e7 4 (by omega)
       have d5 := e7 5 (by omega)
       have d6 := e7 6 (by omega)
       have d7 := e7 7 (by omega)
       have d8 := e7 8 (by omega)
       have d9 := e7 9 (by omega)
       have d10 := e7 10 (by omega)
       have d11 := e7 11 (by omega)
       simp only [upCells, List.getElem?_cons_zero, List.getElem?_cons_succ, Nat.add_zero] at d0 d1 d2 d3 d4 d5 d6 d7 d8 d9 d10 d11
       have hbA : Below wr.heap.size wr (wr.alloc (.cells #[.int .i64 (u.lsn : Int), .int .i64 3, .int .i64 0, .int .i64 0, .int .i64 (u.next : Int), .int .i64 (u.page : Int), .int .i64 (u.off : Int), .slice none 0 0, .slice (some ⟨gv, 0, none⟩) u.after.length cv, .slice none 0 0, .slice none 0 0, .int .i64 0] 107)) := (Below.refl _ _).alloc (Nat.le_refl _) _
       have HSZ := hide (Enc.size_any (rec_of_up (u := u) (e6.of hbA.size (hbA.block gv e6.1)) e3 e4) (by show 96 + 0 + u.after.length + 24 * 0 + 16 * 0 ≤ _; omega))
       have HBA := hide hbA
       have hus : u.rc.size = u.sz := by show 96 + 0 + u.after.length + 24 * 0 + 16 * 0 = 96 + u.after.length; omega
       rw [hus] at HSZ
       obtain ⟨L, hL⟩ : ∃ L, u.after.length = L := ⟨_, rfl⟩
       obtain ⟨B, hB⟩ : ∃ B, resU (T.ups.take m) = B := ⟨_, rfl⟩
       obtain ⟨Z, hZ⟩ : ∃ Z, u.sz = Z := ⟨_, rfl⟩
       rw [hL] at d8 HSZ HBA
       rw [hB] at HU1 hU2 ⊢
       rw [hZ] at HU1 hU2 HSZ
       clear e2 e3 e4 e5 e6 e7 hbA hus hL hB hZ hu
       go_wp2_with (go_at_call 29; refine HSZ.out.mono ?_; rintro e w5 ⟨rfl, hw5⟩; have HW5 := hide hw5; clear hw5)
       go_roundw
       case rel =>
        have hb5 : Below wr.heap.size wr w5 := by rw [HW5.out]; exact HBA.out.alloc HBA.out.size _
        refine ⟨m + 1, by omega, by go_num, ?_, HB1.out.trans (hb5.mono HB1.out.size), HB2.out.trans (hb5.mono HB2.out.size)⟩
        rw [HU1.out]
        congr 1
        omega
       case measure => simp [intOf]; omega
     · have hme : m = M := by omega
       have HF : Hid (A + 192 + resU (T.ups.take m) = A + T.res) := by
        show _ = _
        rw [hme, ← HM.out, List.take_length]
        show _ = A + (192 + resU T.ups)
        omega
       rw [HF.out]
       clear hme
       go_wp2
       go_roundw
       case rel => exact ⟨k + 1, by omega, by go_num, by rw [HS1.out], HB1.out⟩
       case measure => simp [intOf]; omega
  · have hk' : k = S.txs.length := by omega
    have HF : Hid (resT (S.txs.take k) = S.res) := by show _ = _; rw [hk', List.take_length]; rfl
    rw [HF.out]
    clear hk'
    go_wp2
    go_ret
    exact ⟨rfl, HB.out⟩
end
end Go.Proofs.YteeembildppgmaaGreat
namespace Go.Proofs.YteeembildppgmaaGreat
open Go.RowKit
set_option linter.unusedVariables false
set_option linter.unusedSimpArgs false
theorem run_store3 (w : World) (q o : Nat) (u : Value) (x : Int) (h : w.cell? ⟨q, o, none⟩ = some u) (hf : w.frozen? ⟨q, o, none⟩ = false) :
 (Instr.storeAt 3 (.pointer (some ⟨q, o, none⟩)) (.int .i64 x)).run Tryz.prog w = .ok () (w.setCell ⟨q, o, none⟩ (.int .i64 x)) := by
 simp [go_sem, h, hf]
theorem TxIs.row {w : World} {tb : List Nat} {x : Nat} {T : Tn} {uv : Value} {vs : List Value} (h : TxIs w tb x T uv vs) (k : Nat) (hk : uv.ownBlock = some k) : ∃ C, w.heap[k]? = some (.cells C 107 (0, 0)) := by
 rcases h.ups.2 with ⟨h1, _⟩ | ⟨g, cap, cur, h1, _, h3, _⟩
 · rw [h1] at hk; simp [Value.ownBlock] at hk
 · rw [h1] at hk
   have : g = k := by simpa [Value.ownBlock] using hk
   exact ⟨cur, by rw [← this]; exact h3⟩
def St.told (S : St) (i : Nat) (T : Tn) (Rc : Enc.Rc) : St :=
 { S.setR { S.R with held := S.R.held ++ ({ Rc with txn := (T.id : Int), prev := (T.last : Int) } : Enc.Rc).enc } with txs := S.txs.set i { T with last := S.R.tail + 1 } }
section
variable {w0 w w' : World} {s : Nat} {c : Cf} {xs tb : List Nat} {ov : Value} {ps : List Nat} {uvs : List Value} {S : St}
set_option maxHeartbeats 400000 in
theorem fits_any (h : StIs w0 w s c xs tb ov ps uvs S) (hb : S.res ≤ 1000000000) (n : Nat) (hn : n ≤ 1000000) :
 Calls Tryz.prog 53 #[.pointer (some ⟨s, 0, none⟩), .int .i64 (n : Int)] w fun e w' => e = .returned (.bool (decide (n + S.res + 2048 ≤ S.R.room))) ∧ Below w.heap.size w w' := by
 have c1 := h.c1
 obtain ⟨bl, vs, gp, D, hx, hy⟩ := h.asRing
 have HRO := hide (room_any hy.rg)
 have HRS := hide (fun m => reserved_any (h.belowW (below_drewN _ w m)) hb)
 obtain ⟨A, hA⟩ : ∃ A, S.res = A := ⟨_, rfl⟩
 obtain ⟨B, hB⟩ : ∃ B, S.R.room = B := ⟨_, rfl⟩
 rw [hA] at HRS hb ⊢
 rw [hB] at HRO ⊢
 clear h hx hy hA hB
 have hdec : decide (n + A + 2048 ≤ B) = decide ((n : Int) + (A : Int) + 2048 ≤ (B : Int)) := by
  by_cases h1 : n + A + 2048 ≤ B
  · rw [decide_eq_true h1, decide_eq_true (by omega)]
  · rw [decide_eq_false h1, decide_eq_false (by omega)]
 rw [hdec]
 clear hdec
 go_enter Tryz.func53, Tryz.ntmps53
 go_wp2_with (first
  | (go_at_call 84; refine HRO.out.mono ?_; rintro e w2 ⟨rfl, m, hm⟩; have hm := hm.symm; subst hm)
  | (go_at_call 85; refine (HRS.out _).mono ?_; rintro e w3 ⟨rfl, hb3⟩; have HB3 := hide hb3; clear hb3))
 go_ret
 exact ⟨rfl, (below_drewN _ _ _).trans HB3.out⟩
set_option maxHeartbeats 400000 in
theorem makeRoom_ok (h : StIs w0 w s c xs tb ov ps uvs S) (hb : S.res ≤ 1000000000) (n : Nat) (hn : n ≤ 1000000) (hf : n + S.res + 2048 ≤ S.R.room) :
 Calls Tryz.prog 28 #[.pointer (some ⟨s, 0, none⟩), .int .i64 (n : Int)] w fun e w' => e = .returned (.int .i64 0) ∧ Below w.heap.size w w' := by
 have HF := hide (fits_any h hb n hn)
 rw [decide_eq_true hf] at HF
 clear h hf hb
 go_enter Tryz.func28, Tryz.ntmps28
 go_wp2_with (go_at_call 53; refine HF.out.mono ?_; rintro e w2 ⟨rfl, hb2⟩; have HB2 := hide hb2; clear hb2)
 go_ret
 exact ⟨rfl, HB2.out⟩
set_option maxHeartbeats 1000000 in
set_option maxRecDepth 100000 in
theorem sfind_ok (h : StIs w0 w s c xs tb ov ps uvs S) {i x : Nat} {T : Tn} (hx : ps[i]? = some x) (hT : S.txs[i]? = some T) (hno : ∀ (j : Nat) U, j < i → S.txs[j]? = some U → U.id ≠ T.id) (n : Int) (hn : n = (T.id : Int)) :
 Calls Tryz.prog 31 #[.pointer (some ⟨s, 0, none⟩), .int .i64 n] w fun e w' => e = .returned (.tuple #[.pointer (some ⟨x, 0, none⟩), .int .i64 0]) ∧ w' = w := by
 obtain ⟨ao, cc, rfl⟩ := h.ovlen
 have c4 := h.c4
 have c10 := h.c10
 have hfew := h.few
 have hil := (List.getElem?_eq_some_iff.1 hT).1
 have H := hide h
 have HX := hide hx
 have HT := hide hT
 have HNO := hide hno
 clear h hx hT hno
 go_enter Tryz.func31, Tryz.ntmps31
 go_wp2
 go_loopw [17] (fun j wr => ∃ k : Nat, k ≤ i ∧ j = .int .i64 k ∧ wr = w) (fun j _ => i - (intOf j).toNat)
 case atStart => exact ⟨0, by omega, rfl, rfl⟩
 case round =>
  obtain ⟨k, hk, rfl, hw⟩ := hrel
  have hw := hw.symm
  subst hw
  have hkl : k < S.txs.length := by omega
  obtain ⟨U, hU⟩ : ∃ U, S.txs[k]? = some U := ⟨_, List.getElem?_eq_getElem hkl⟩
  obtain ⟨g, y, uv, vs, cc', hov, hy, hu, t, hcell⟩ := H.out.txAt k U hU
  injection hov with e1 e2 e3
  subst e1
  have x0 := t.c0
  clear e2 e3 t hu
  by_cases hlt : k < i
  · have hne : (U.id : Int) ≠ n := by have := HNO.out k U hlt hU; omega
    have hneb : ((U.id : Int) == n) = false := beq_eq_false_iff_ne.2 hne
    clear hne hn hy hU
    generalize (U.id : Int) = d at *
    go_wp2
    go_roundw
    case rel => exact ⟨k + 1, by omega, by go_num, by first | rfl | trivial⟩
    case measure => simp [intOf]; omega
  · have hki : k = i := by omega
    subst hki
    rw [HX.out] at hy
    cases hy
    rw [HT.out] at hU
    cases hU
    rw [← hn] at x0
    clear hn
    go_wp2
    go_ret2
    exact ⟨rfl, rfl⟩
set_option maxHeartbeats 1000000 in
set_option maxRecDepth 100000 in
theorem sfind_no (h : StIs w0 w s c xs tb ov ps uvs S) (n : Int) (hno : ∀ (j : Nat) U, S.txs[j]? = some U → (U.id : Int) ≠ n) :
 Calls Tryz.prog 31 #[.pointer (some ⟨s, 0, none⟩), .int .i64 n] w fun e w' => e = .returned (.tuple #[.pointer none, .int .i64 61]) ∧ w' = w := by
 obtain ⟨ao, cc, rfl⟩ := h.ovlen
 have c4 := h.c4
 have c10 := h.c10
 have hfew := h.few
 have H := hide h
 have HNO := hide hno
 clear h hno
 go_enter Tryz.func31, Tryz.ntmps31
 go_wp2
 go_loopw [17] (fun j wr => ∃ k : Nat, k ≤ S.txs.length ∧ j = .int .i64 k ∧ wr = w) (fun j _ => S.txs.length - (intOf j).toNat)
 case atStart => exact ⟨0, by omega, rfl, rfl⟩
 case round =>
  obtain ⟨k, hk, rfl, hw⟩ := hrel
  have hw := hw.symm
  subst hw
  by_cases hlt : k < S.txs.length
  · obtain ⟨U, hU⟩ : ∃ U, S.txs[k]? = some U := ⟨_, List.getElem?_eq_getElem hlt⟩
    obtain ⟨g, y, uv, vs, cc', hov, hy, hu, t, hcell⟩ := H.out.txAt k U hU
    injection hov with e1 e2 e3
    subst e1
    have x0 := t.c0
    clear e2 e3 t hu
    have hneb : ((U.id : Int) == n) = false := beq_eq_false_iff_ne.2 (HNO.out k U hU)
    clear hy hU
    generalize (U.id : Int) = d at *
    go_wp2
    go_roundw
    case rel => exact ⟨k + 1, by omega, by go_num, by first | rfl | trivial⟩
    case measure => simp [intOf]; omega
  · go_wp2
    go_ret2
    exact ⟨rfl, rfl⟩
set_option maxHeartbeats 1000000 in
set_option maxRecDepth 100000 in
theorem tellOf_ok (h : StIs w0 w s c xs tb ov ps uvs S) {i x : Nat} {T : Tn} {uv : Value} (hx : ps[i]? = some x) (hT : S.txs[i]? = some T) (hu : uvs[i]? = some uv) {V : Value} {Rc : Enc.Rc} (hV : Enc.RecVal w V Rc) (hs : Rc.size ≤ 1000000) (hwf : Rc.wf) (hroom : Rc.size ≤ S.R.room) (hid : T.id ≤ 1000000000000) (hla : T.last ≤ 4398046511104) :
 Calls Tryz.prog 40 #[.pointer (some ⟨s, 0, none⟩), .pointer (some ⟨x, 0, none⟩), V] w fun e w' => e = .returned (.int .i64 0) ∧
  StIs w0 w' s c xs tb ov ps uvs (S.told i T Rc) ∧ Kept xs w w' ∧ ∀ k ∈ tb, ¬ k = x → w'.heap[k]? = w.heap[k]? := by
 obtain ⟨vs, t⟩ := h.tx i x T uv hx hT hu
 obtain ⟨vb, va, vt, vd, rfl, r1, r2, r3, r4⟩ := hV
 obtain ⟨ab, cb, rfl, b1, b2⟩ := Enc.Row.len r1
 obtain ⟨aa, ca, rfl, a1, a2⟩ := Enc.Row.len r2
 obtain ⟨aT, ct, rfl, t1, t2⟩ := Enc.Row.len r3
 obtain ⟨ad, cd, rfl, d1, d2⟩ := Enc.Row.len r4
 unfold Enc.recCells
 have hb1 : Below w.heap.size w (w.alloc (.cells #[.int .i64 Rc.kind, .int .i64 Rc.txn, .int .i64 Rc.prev, .int .i64 Rc.next, .int .i64 Rc.page, .int .i64 Rc.off, .slice ab Rc.before.length cb, .slice aa Rc.after.length ca, .slice aT Rc.txns.length ct, .slice ad Rc.dirty.length cd, .int .i64 Rc.count] 69)) := (Below.refl _ w).alloc (Nat.le_refl _) _
 have hq1 : (w.alloc (.cells #[.int .i64 Rc.kind, .int .i64 Rc.txn, .int .i64 Rc.prev, .int .i64 Rc.next, .int .i64 Rc.page, .int .i64 Rc.off, .slice ab Rc.before.length cb, .slice aa Rc.after.length ca, .slice aT Rc.txns.length ct, .slice ad Rc.dirty.length cd, .int .i64 Rc.count] 69)).heap[w.heap.size]? = some (.cells #[.int .i64 Rc.kind, .int .i64 Rc.txn, .int .i64 Rc.prev, .int .i64 Rc.next, .int .i64 Rc.page, .int .i64 Rc.off, .slice ab Rc.before.length cb, .slice aa Rc.after.length ca, .slice aT Rc.txns.length ct, .slice ad Rc.dirty.length cd, .int .i64 Rc.count] 69 (0, 0)) := heap_alloc_new w _
 have hz1 : (w.alloc (.cells #[.int .i64 Rc.kind, .int .i64 Rc.txn, .int .i64 Rc.prev, .int .i64 Rc.next, .int .i64 Rc.page, .int .i64 Rc.off, .slice ab Rc.before.length cb, .slice aa Rc.after.length ca, .slice aT Rc.txns.length ct, .slice ad Rc.dirty.length cd, .int .i64 Rc.count] 69)).heap.size = w.heap.size + 1 := by simp
 have hxl : x < w.heap.size := h.lts (by simp [t.inX])
 have x0 := (hb1.cell (p := ⟨x, 0, none⟩) hxl).trans t.c0
 have x2 := (hb1.cell (p := ⟨x, 2, none⟩) hxl).trans t.c2
 have hV2 : ∀ W, Below w.heap.size w W → Enc.RecVal W (.agg #[.int .i64 Rc.kind, .int .i64 (T.id : Int), .int .i64 (T.last : Int), .int .i64 Rc.next, .int .i64 Rc.page, .int .i64 Rc.off, .slice ab Rc.before.length cb, .slice aa Rc.after.length ca, .slice aT Rc.txns.length ct, .slice ad Rc.dirty.length cd, .int .i64 Rc.count]) { Rc with txn := (T.id : Int), prev := (T.last : Int) } := fun W hW =>
  ⟨_, _, _, _, rfl, Enc.Row.below r1 hW (Nat.le_refl _), Enc.Row.below r2 hW (Nat.le_refl _), r3.below hW (Nat.le_refl _), r4.below hW (Nat.le_refl _)⟩
 have hwf2 : ({ Rc with txn := (T.id : Int), prev := (T.last : Int) } : Enc.Rc).wf := by
  refine ⟨fun y hy => ?_, hwf.txns, hwf.dirty, hwf.count⟩
  have h0 := hwf.head
  simp only [Enc.Rc.head, List.mem_cons, List.not_mem_nil, or_false, forall_eq_or_imp] at hy h0
  rcases hy with rfl | rfl | rfl | hy
  · exact h0.1
  · omega
  · omega
  · rcases hy with rfl | rfl | rfl
    · exact h0.2.2.2.1
    · exact h0.2.2.2.2.1
    · exact h0.2.2.2.2.2 _ rfl
 have H := hide h
 have HX := hide hx
 have HT := hide hT
 have HU := hide hu
 have HTX := hide t
 have HV2 := hide hV2
 have HWF2 := hide hwf2
 have HSS := hide hs
 have HRM := hide hroom
 have HB1 := hide hb1
 have HQ1 := hide hq1
 have HZ1 := hide hz1
 clear h t hx hT hu hs hwf hroom hb1 hq1 hz1 hwf2 hV2 r1 r2 r3 r4 b1 b2 a1 a2 t1 t2 d1 d2
 go_enter Tryz.func40, Tryz.ntmps40
 go_wp2_with fail
 obtain ⟨W1, hW1⟩ : ∃ W1, w.alloc (.cells #[.int .i64 Rc.kind, .int .i64 Rc.txn, .int .i64 Rc.prev, .int .i64 Rc.next, .int .i64 Rc.page, .int .i64 Rc.off, .slice ab Rc.before.length cb, .slice aa Rc.after.length ca, .slice aT Rc.txns.length ct, .slice ad Rc.dirty.length cd, .int .i64 Rc.count] 69) = W1 := ⟨_, rfl⟩
 rw [hW1] at HB1 HQ1 HZ1 x0 x2 ⊢
 clear hW1
 obtain ⟨Q, hQ⟩ : ∃ Q, w.heap.size = Q := ⟨_, rfl⟩
 have hxQ : x ≠ Q := by omega
 rw [hQ] at HQ1 HZ1 ⊢
 have HQ := hide hQ
 clear hQ
 have HQC : Hid ((W1.drewN 1).cell? ⟨Q, 1, none⟩ = some (.int .i64 Rc.txn)) := by show _ = _; rw [cell_of_row (W1.drewN 1) Q 1 _ _ _ HQ1.out]; rfl
 have HQF : Hid (∀ k, (W1.drewN 1).frozen? ⟨Q, k, none⟩ = false) := fun k => frozen_of_row (W1.drewN 1) Q k _ _ HQ1.out
 have hg2 := heap_setCell_same (W1.drewN 1) Q 1 _ _ (.int .i64 (T.id : Int)) HQ1.out
 have HQC2 : Hid (((W1.drewN 1).setCell ⟨Q, 1, none⟩ (.int .i64 (T.id : Int))).cell? ⟨Q, 2, none⟩ = some (.int .i64 Rc.prev)) := by
  show _ = _
  rw [cell_of_row _ Q 2 _ _ _ hg2]; rfl
 have HQF2 : Hid (((W1.drewN 1).setCell ⟨Q, 1, none⟩ (.int .i64 (T.id : Int))).frozen? ⟨Q, 2, none⟩ = false) := frozen_of_row _ Q 2 _ _ hg2
 have hg3 := heap_setCell_same _ Q 2 _ _ (.int .i64 (T.last : Int)) hg2
 have O2 : Off [Q] W1 ((W1.drewN 1).setCell ⟨Q, 1, none⟩ (.int .i64 (T.id : Int))) := ((Off.refl _ W1).drewN 1).setCell _ _ (by simp)
 have O3 := O2.setCell ⟨Q, 2, none⟩ (.int .i64 (T.last : Int)) (by simp)
 have hS1 : ((W1.drewN 1).setCell ⟨Q, 1, none⟩ (.int .i64 (T.id : Int))).cell? ⟨x, 0, none⟩ = some (.int .i64 (T.id : Int)) ∧ ((W1.drewN 1).setCell ⟨Q, 1, none⟩ (.int .i64 (T.id : Int))).cell? ⟨x, 2, none⟩ = some (.int .i64 (T.last : Int)) := by
  have e := O2.block x (by have := HZ1.out; have := HQ.out; omega) (by simpa using hxQ)
  exact ⟨(World.cell?_of_block (a := ⟨x, 0, none⟩) e).trans x0, (World.cell?_of_block (a := ⟨x, 2, none⟩) e).trans x2⟩
 have hS2 : (((W1.drewN 1).setCell ⟨Q, 1, none⟩ (.int .i64 (T.id : Int))).setCell ⟨Q, 2, none⟩ (.int .i64 (T.last : Int))).cell? ⟨x, 0, none⟩ = some (.int .i64 (T.id : Int)) ∧ (((W1.drewN 1).setCell ⟨Q, 1, none⟩ (.int .i64 (T.id : Int))).setCell ⟨Q, 2, none⟩ (.int .i64 (T.last : Int))).cell? ⟨x, 2, none⟩ = some (.int .i64 (T.last : Int)) := by
  have e := O3.block x (by have := HZ1.out; have := HQ.out; omega) (by simpa using hxQ)
  exact ⟨(World.cell?_of_block (a := ⟨x, 0, none⟩) e).trans x0, (World.cell?_of_block (a := ⟨x, 2, none⟩) e).trans x2⟩
 have HG3 := hide hg3
 have HO3 := hide O3
 clear hg2 hg3 O2 O3
 refine wp_region_held_drew (S := fun w' => w'.cell? ⟨x, 0, none⟩ = some (.int .i64 (T.id : Int)) ∧ w'.cell? ⟨x, 2, none⟩ = some (.int .i64 (T.last : Int))) (by kernel_rfl) ⟨x0, x2⟩ (fun hH => ?_)
 refine take_to 0 9 (.pointer (some ⟨x, 0, none⟩)) rfl (by kernel_rfl) (by kernel_rfl) (by kernel_rfl) (fun _ _ _ h => h) rfl (by rfl) (fun w hw => by rfl) hH ?_
 simp only [Act.put, zA, zB, zC]
 refine take_to 1 10 (.pointer (some ⟨x, 0, none⟩)) rfl (by kernel_rfl) (by kernel_rfl) (by kernel_rfl) (fun _ _ _ h => h) rfl (by rfl) (fun w hw => by rfl) hH ?_
 simp only [Act.put, zA, zB, zC]
 refine take_to 2 11 (.pointer (some ⟨x, 0, none⟩)) rfl (by kernel_rfl) (by kernel_rfl) (by kernel_rfl) (fun _ _ _ h => h) rfl (by rfl) (fun w hw => by rfl) hH ?_
 simp only [Act.put, zA, zB, zC]
 refine take_to 3 12 (.int .i64 (T.id : Int)) rfl (by kernel_rfl) (by kernel_rfl) (by kernel_rfl) (fun _ _ _ h => h) rfl (by rfl) (fun w hw => op_load _ _ 3 (.tmp 11) rfl (.pointer (some ⟨x, 0, none⟩)) _ rfl (run_loadAny w x 0 3 _ Tryz.isAgg3 hw.1)) hH ?_
 simp only [Act.put, zA, zB, zC]
 refine take_to 4 13 (.pointer (some ⟨x, 0, none⟩)) rfl (by kernel_rfl) (by kernel_rfl) (by kernel_rfl) (fun _ _ _ h => h) rfl (by rfl) (fun w hw => by rfl) hH ?_
 simp only [Act.put, zA, zB, zC]
 refine take_to 5 14 (.pointer (some ⟨x, 0, none⟩)) rfl (by kernel_rfl) (by kernel_rfl) (by kernel_rfl) (fun _ _ _ h => h) rfl (by rfl) (fun w hw => by rfl) hH ?_
 simp only [Act.put, zA, zB, zC]
 refine take_to 6 15 (.pointer (some ⟨x, 2, none⟩)) rfl (by kernel_rfl) (by kernel_rfl) (by kernel_rfl) (fun _ _ _ h => h) rfl (by rfl) (fun w hw => by rfl) hH ?_
 simp only [Act.put, zA, zB, zC]
 refine take_to 7 16 (.int .i64 (T.last : Int)) rfl (by kernel_rfl) (by kernel_rfl) (by kernel_rfl) (fun _ _ _ h => h) rfl (by rfl) (fun w hw => op_load _ _ 3 (.tmp 15) rfl (.pointer (some ⟨x, 2, none⟩)) _ rfl (run_loadAny w x 2 3 _ Tryz.isAgg3 hw.2)) hH ?_
 simp only [Act.put, zA, zB, zC]
 refine take_to 8 17 (.pointer (some ⟨Q, 1, none⟩)) rfl (by kernel_rfl) (by kernel_rfl) (by kernel_rfl) (fun _ _ _ h => h) rfl (by rfl) (fun w hw => by rfl) hH ?_
 simp only [Act.put, zA, zB, zC]
 refine step_store_to 9 _ rfl (by kernel_rfl) rfl (by rfl) 3 (.tmp 17) (.tmp 12) rfl (.pointer (some ⟨Q, 1, none⟩)) (.int .i64 (T.id : Int)) rfl rfl (run_store3 _ Q 1 _ _ HQC.out (HQF.out 1)) hS1 ?_
 refine take_to 10 18 (.pointer (some ⟨Q, 2, none⟩)) rfl (by kernel_rfl) (by kernel_rfl) (by kernel_rfl) (fun _ _ _ h => h) rfl (by rfl) (fun w hw => by rfl) hS1 ?_
 simp only [Act.put, zA, zB, zC]
 refine step_store_to 11 _ rfl (by kernel_rfl) rfl (by rfl) 3 (.tmp 18) (.tmp 16) rfl (.pointer (some ⟨Q, 2, none⟩)) (.int .i64 (T.last : Int)) rfl rfl (run_store3 _ Q 2 _ _ HQC2.out HQF2.out) hS2 ?_
 refine wpAnyH_done (by kernel_rfl) ?_ _
 obtain ⟨W3, hW3⟩ : ∃ W3, (((W1.drewN 1).setCell ⟨Q, 1, none⟩ (.int .i64 (T.id : Int))).setCell ⟨Q, 2, none⟩ (.int .i64 (T.last : Int))) = W3 := ⟨_, rfl⟩
 rw [hW3] at HG3 HO3
 have hg3 : W3.heap[Q]? = some (.cells #[.int .i64 Rc.kind, .int .i64 (T.id : Int), .int .i64 (T.last : Int), .int .i64 Rc.next, .int .i64 Rc.page, .int .i64 Rc.off, .slice ab Rc.before.length cb, .slice aa Rc.after.length ca, .slice aT Rc.txns.length ct, .slice ad Rc.dirty.length cd, .int .i64 Rc.count] 69 (0, 0)) := HG3.out
 have HB3 : Hid (Below w.heap.size w W3) := HB1.out.trans (HO3.out.below HB1.out.size (fun k hk => by simp at hk; have := HQ.out; omega))
 have q0 : W3.cell? ⟨Q, 0, none⟩ = some (.int .i64 Rc.kind) := by rw [cell_of_row W3 Q 0 _ _ _ hg3]; rfl
 have q1 : W3.cell? ⟨Q, 1, none⟩ = some (.int .i64 (T.id : Int)) := by rw [cell_of_row W3 Q 1 _ _ _ hg3]; rfl
 have q2 : W3.cell? ⟨Q, 2, none⟩ = some (.int .i64 (T.last : Int)) := by rw [cell_of_row W3 Q 2 _ _ _ hg3]; rfl
 have q3 : W3.cell? ⟨Q, 3, none⟩ = some (.int .i64 Rc.next) := by rw [cell_of_row W3 Q 3 _ _ _ hg3]; rfl
 have q4 : W3.cell? ⟨Q, 4, none⟩ = some (.int .i64 Rc.page) := by rw [cell_of_row W3 Q 4 _ _ _ hg3]; rfl
 have q5 : W3.cell? ⟨Q, 5, none⟩ = some (.int .i64 Rc.off) := by rw [cell_of_row W3 Q 5 _ _ _ hg3]; rfl
 have q6 : W3.cell? ⟨Q, 6, none⟩ = some (.slice ab Rc.before.length cb) := by rw [cell_of_row W3 Q 6 _ _ _ hg3]; rfl
 have q7 : W3.cell? ⟨Q, 7, none⟩ = some (.slice aa Rc.after.length ca) := by rw [cell_of_row W3 Q 7 _ _ _ hg3]; rfl
 have q8 : W3.cell? ⟨Q, 8, none⟩ = some (.slice aT Rc.txns.length ct) := by rw [cell_of_row W3 Q 8 _ _ _ hg3]; rfl
 have q9 : W3.cell? ⟨Q, 9, none⟩ = some (.slice ad Rc.dirty.length cd) := by rw [cell_of_row W3 Q 9 _ _ _ hg3]; rfl
 have q10 : W3.cell? ⟨Q, 10, none⟩ = some (.int .i64 Rc.count) := by rw [cell_of_row W3 Q 10 _ _ _ hg3]; rfl
 have HTL := hide (tell_ok (H.out.belowW HB3.out) (HV2.out W3 HB3.out) HSS.out HWF2.out HRM.out)
 show Exit.then _ _ _ _ (((W1.drewN 1).setCell ⟨Q, 1, none⟩ (.int .i64 (T.id : Int))).setCell ⟨Q, 2, none⟩ (.int .i64 (T.last : Int)))
 rw [hW3]
 clear hW3 hS1 hS2 HQC HQF HQC2 HQF2 hH x0 x2 HG3 HO3 hg3 HQ1 HB1
 obtain ⟨L, hL⟩ : ∃ L : Nat, S.R.tail + 1 = L := ⟨_, rfl⟩
 rw [hL] at HTL
 have HL := hide hL
 clear hL
 go_wp2_with fail
 refine HTL.out.mono ?_
 rintro e W4 ⟨rfl, h4, hK4⟩
 have HB4 : Hid (Kept (s :: (tb ++ xs)) w W4) := Kept.trans ⟨HB3.out.size, fun k hk => HB3.out.block k (H.out.lts hk)⟩ hK4
 have t4 := HTX.out.keep (w' := W4) (tb' := tb) HB4.out.1 (fun k hk => ⟨hk, HB4.out.2 k (by simp [hk])⟩)
 have y2 := t4.c2
 have f2 := t4.fz 2
 have H4 := hide h4
 have HT4 := hide t4
 clear h4 hK4 t4 q0 q1 q2 q3 q4 q5 q6 q7 q8 q9 q10 HTL
 go_wp2_with fail
 go_ret
 have hO : Off [x] W4 (W4.setCell ⟨x, 2, none⟩ (.int .i64 (L : Int))) := (Off.refl _ _).setCell _ _ (by simp)
 have hT5 : TxIs (W4.setCell ⟨x, 2, none⟩ (.int .i64 (L : Int))) tb x { T with last := L } uv vs := by
  refine ⟨by rw [heap_setCell_same _ x 2 _ _ _ HT4.out.head]; rfl, owns_of_block HT4.out.ups (fun k e => hO.block k ((HT4.out.ups.lt k e).2) (fun hm => ?_)), HT4.out.vlen, fun j u v h1 h2 => ?_, HT4.out.inX, HT4.out.inU⟩
  · simp at hm
    obtain ⟨C, hC⟩ := HT4.out.row k e
    rw [hm, HT4.out.head] at hC; simp at hC
  · obtain ⟨g, cc, a1, a2, a3, a4, a5, C, a6⟩ := HT4.out.byt j u v h1 h2
    have hgx : g ≠ x := fun e => by rw [e, HT4.out.head] at a6; simp at a6
    have e := hO.block g a5.1 (by simpa using hgx)
    exact ⟨g, cc, a1, a2, a3, a4, a5.of hO.size e, C, by rw [e]; exact a6⟩
 have hil := (List.getElem?_eq_some_iff.1 HT.out).1
 have := H4.out.setTx (i := i) HX.out HT.out HU.out hO (fun k hk => .inl (by simpa using hk)) hT5 (fun k hk => hk) (fun k hk => .inl hk) (fun k hk => .inl hk) (fun k hk => HT4.out.row k hk)
 rw [show uvs.set i uv = uvs by obtain ⟨hl, e⟩ := List.getElem?_eq_some_iff.1 HU.out; rw [← e]; exact List.set_getElem_self _] at this
 refine ⟨rfl, ?_, ⟨Nat.le_trans HB4.out.1 hO.size, fun k hk => (hO.block k (Nat.lt_of_lt_of_le (H.out.lt hk) HB4.out.1) (fun hm => by simp at hm; exact H.out.tbx x HTX.out.inX (hm ▸ hk))).trans (HB4.out.2 k (by simp [hk]))⟩, fun k hk hkx => (hO.block k (Nat.lt_of_lt_of_le (H.out.lts (by simp [hk])) HB4.out.1) (by simpa using hkx)).trans (HB4.out.2 k (by simp [hk]))⟩
 unfold St.told
 rw [HL.out]
 exact this
end
end Go.Proofs.YteeembildppgmaaGreat
