/- RedoOnce: its walk. -/
import Derived.Test.YtpjppolbkdnkaaaOnceAll
namespace Go.Proofs.Ytpjppolbkdnkaaa
open Go.RowKit
set_option linter.unusedVariables false
set_option linter.unusedSimpArgs false

def castN (l : List Nat) : List Int := l.map (fun n : Nat => (n : Int))
theorem comN_drop {L : List Ln} {t : Nat} {x : Ln} (hx : L[t]? = some x) : comN (L.drop t) = com x + comN (L.drop (t + 1)) := by
  obtain ⟨hl, e⟩ := List.getElem?_eq_some_iff.1 hx
  rw [List.drop_eq_getElem_cons hl, e]
  rfl
theorem isOpen_ne {L : List Ln} {t : Nat} {x : Ln} (hx : L[t]? = some x) (hk : x.kind ≠ 2) : isOpen L t = false := by
  unfold isOpen
  rw [hx]
  simp [hk]
theorem isOpen_eq {L : List Ln} {t : Nat} {x : Ln} (hx : L[t]? = some x) (hk : x.kind = 2) : isOpen L t = (!(L.drop (t + 1)).any (wins x) && (L.drop (t + 1)).countP (goes x) == 0) := by
  unfold isOpen
  rw [hx]
  simp [hk]
theorem comN_le : ∀ (l : List Ln), 0 ≤ comN l ∧ comN l ≤ l.length
  | [] => by simp [comN]
  | x :: l => by have := comN_le l; have := com_le x; rw [comN, List.length_cons]; omega
theorem opens_len (L : List Ln) (m : Nat) : (opens L m).length ≤ L.length := by
  unfold opens
  rw [List.length_reverse]
  refine Nat.le_trans (List.length_filter_le _ _) ?_
  rw [List.length_range']
  omega
theorem castN_length (l : List Nat) : (castN l).length = l.length := by simp [castN]
theorem recrow_range {w : World} {base g c : Nat} {L : List Ln} (h : w.ownsRow base 32 11 (.slice (some ⟨g, 0, none⟩) L.length c) L.length (recRow L)) (i : Nat) (x : Ln) (hx : L[i]? = some x) : w.rangeAt g (i * 11) (recCells x) := fun j v hv => by
  have hi := (List.getElem?_eq_some_iff.1 hx).1
  obtain ⟨g', c', cur, e, _, hg, h1, _, h3, ht⟩ := own_some h (by omega)
  injection e with e1 e2 e3
  injection e1 with e1
  injection e1 with e1 _
  subst e1
  have hj := (List.getElem?_eq_some_iff.1 hv).1
  have hj : j < 11 := by simpa [recCells] using hj
  have hfl : ∀ y ∈ L.map recCells, y.length = 11 := fun y hy => by obtain ⟨z, _, rfl⟩ := List.mem_map.1 hy; rfl
  have h0 := flat_get 11 (L.map recCells) hfl i (by rw [List.length_map]; exact hi) j hj
  have hx' := (List.getElem?_eq_some_iff.1 hx).2
  rw [List.getElem_map, hx', hv] at h0
  have hrow : (recRow L)[i * 11 + j]? = some v := by unfold recRow; rw [List.flatMap_def]; exact h0
  rw [← ht, List.getElem?_take, if_pos (by omega)] at hrow
  rw [cell_of_row _ _ _ _ _ _ hg]
  simpa using hrow
theorem ints_at {w : World} {base : Nat} {g c : Nat} {l : List Int} (h : w.ownsRow base 3 1 (.slice (some ⟨g, 0, none⟩) l.length c) l.length (intCells l)) (i : Nat) (x : Int) (hx : l[i]? = some x) : w.cell? ⟨g, i, none⟩ = some (.int .i64 x) := by
  have hi := (List.getElem?_eq_some_iff.1 hx).1
  obtain ⟨g', c', cur, e, _, hg, _, _, _, ht⟩ := own_some h (by omega)
  injection e with e1 e2 e3
  injection e1 with e1
  injection e1 with e1 _
  subst e1
  have a1 : (intCells l)[i]? = some (.int .i64 x) := by unfold intCells; rw [List.getElem?_map, hx]; rfl
  rw [← ht, List.getElem?_take, if_pos (by omega)] at a1
  rw [cell_of_row _ _ _ _ _ _ hg]; simpa using a1
theorem Em.len {bsOf : Ln → List Value} {K' : List (Nat × Obj)} {O Rs : List Ln} {n : Nat} (h : Em bsOf K' O Rs n) : O.length = Rs.length + n := by
  induction h using Em.ind with
  | nil => rfl
  | ends O Rs n id h ih => rw [List.length_append, ih]; simp; omega
  | clr O Rs n r g c cur h hk ht ih => rw [List.length_append, List.length_append, ih]; simp; omega
/-- The lines between the t-th and the q-th. -/
def between (L : List Ln) (t q : Nat) : List Ln := (L.take q).drop (t + 1)
theorem between_start (L : List Ln) (t : Nat) : between L t (t + 1) = [] := by
  unfold between
  rw [List.drop_of_length_le (by rw [List.length_take]; omega)]
theorem between_step {L : List Ln} {t q : Nat} {x : Ln} (hx : L[q]? = some x) (h : t < q) : between L t (q + 1) = between L t q ++ [x] := by
  unfold between
  have hl := (List.getElem?_eq_some_iff.1 hx).1
  rw [take_snoc hx, List.drop_append_of_le_length (by rw [List.length_take]; omega)]
theorem between_end (L : List Ln) (t : Nat) : between L t L.length = L.drop (t + 1) := by unfold between; rw [List.take_length]
theorem between_len (L : List Ln) (t q : Nat) (h : q ≤ L.length) : (between L t q).length ≤ q := by unfold between; simp; omega

set_option maxHeartbeats 8000000 in
set_option maxRecDepth 100000 in
theorem once_walk (w : World) (a : Option Addr) (len c : Nat)
    (hHist : Calls Try.prog 8 #[.slice a len c] w fun e w' => ∃ (a3 : Option Addr) (c3 : Nat) (S : Hs), e = .returned (.slice a3 S.L.length c3) ∧ w'.ownsRow w.heap.size 34 12 (.slice a3 S.L.length c3) S.L.length (lnRow S.L) ∧ HC S ∧ S.L.length ≤ 60 ∧ BytesOk w' S.L ∧ Below w.heap.size w w') :
    Calls Try.prog 6 #[.slice a len c] w fun e w' => e = .returned (.bool true) ∧ Below w.heap.size w w' := by
  have HH := hide hHist
  clear hHist
  go_enter Try.func6, Try.ntmps6
  go_upto_region 2 with (go_at_call 8; refine HH.out.mono ?_; rintro e w1 ⟨a3, c3, S, rfl, hrow, hC, hl60, hby, hB1⟩; have HROW := hide hrow; have HC := hide hC; have HBY := hide hby; have HB1 := hide hB1; clear hrow hC hby hB1)
  have HL := hide HC.out.ls.L
  have HLI := hide (linesOwn HROW.out (fun x hx => by obtain ⟨i, hi⟩ := List.mem_iff_getElem?.1 hx; exact (HL.out i x hi).ok (by have := (List.getElem?_eq_some_iff.1 hi).1; omega)) (by omega))
  have HAL := hide (analyzeL w1 ⟨a3, S.L.length, c3⟩ S.L rfl HLI.out hl60 HL.out)
  have HLG : Hid (∀ W, Below w1.heap.size w1 W → LogAt W ⟨a3, S.L.length, c3⟩ S.L) := fun W hb => log_own HROW.out (HLI.out.below hb)
  obtain ⟨ln, hln⟩ : ∃ ln, S.L.length = ln := ⟨_, rfl⟩
  have HLN := hide hln
  rw [hln] at hl60 HAL ⊢
  clear hln HROW
  go_upto_region 3 with (go_at_call 9; refine HAL.out.mono ?_; rintro e w2 ⟨at', ct, ts, ad, cd, dn, rfl, ht, ht12, htx, hB2⟩; have HT := hide ht; have HTX := hide htx; have HB2 := hide hB2; clear ht htx hB2)
  have HUN := hide (undoL w1 w2 ⟨a3, S.L.length, c3⟩ S HC.out HB2.out (HLG.out w2 HB2.out) (by rw [HLN.out]; exact hl60) HBY.out at' ct ts HT.out HTX.out ht12)
  obtain ⟨tn, htn⟩ : ∃ tn, ts.length = tn := ⟨_, rfl⟩
  have HTN := hide htn
  rw [htn] at HUN ht12 ⊢
  rw [HLN.out] at HUN
  clear htn HAL
  go_upto_region 7 with (go_at_call 19; refine HUN.out.mono ?_; rintro e w3 ⟨vu, O', K', rfl, hrow, hB3, hK, hEm⟩; obtain ⟨au, cu, hvu⟩ := own_slice hrow; subst hvu; have HRO := hide hrow; have HB3 := hide hB3; have HK := hide hK; have HEM := hide hEm; clear hrow hB3 hK hEm)
  obtain ⟨L, hLL⟩ : ∃ L, S.L = L := ⟨_, rfl⟩
  rw [hLL] at HL HLI HLN HEM HBY ⊢
  clear hLL HC HT HUN HLG
  obtain ⟨un, hun⟩ : ∃ un, O'.length = un := ⟨_, rfl⟩
  have HUNN := hide hun
  rw [hun]
  clear hun
  have HB13 : Hid (Below w1.heap.size w1 w3) := HB2.out.trans (HB3.out.mono HB2.out.size)
  go_loopw [8, 9, 10] (fun cm op i wr => ∃ m : Nat, m ≤ ln ∧ i = .int .i64 ((m : Int) - 1) ∧ cm = .int .i64 (comN (L.drop m)) ∧ wr.ownsRow w3.heap.size 3 1 op (opens L m).length (intCells (castN (opens L m))) ∧ Below w3.heap.size w3 wr) (fun _ _ i _ => (iv i + 1).toNat)
  case atStart => exact ⟨ln, Nat.le_refl _, rfl, by rw [List.drop_of_length_le (by rw [HLN.out]; exact Nat.le_refl _)]; rfl, by rw [← HLN.out, opens_end]; exact ⟨rfl, .inl ⟨rfl, rfl⟩⟩, Below.refl _ _⟩
  case round =>
    obtain ⟨m, hm, rfl, rfl, hop, hB4⟩ := hrel
    obtain ⟨ao, co, hvo⟩ := own_slice hop
    subst hvo
    have HOP := hide hop
    have HB4 := hide hB4
    have hol := opens_len L m
    rw [HLN.out] at hol
    have hcl := comN_le (L.drop m)
    have hcl2 : (L.drop m).length ≤ ln := by rw [List.length_drop, HLN.out]; omega
    clear hop hB4
    by_cases hm0 : m = 0
    · subst hm0
      rw [List.drop_zero]
      obtain ⟨on, hon⟩ : ∃ on, (opens L 0).length = on := ⟨_, rfl⟩
      have HON := hide hon
      rw [hon] at hol HOP ⊢
      clear hon hcl2 hcl hm
      obtain ⟨cm, hcm⟩ : ∃ cm, comN L = cm := ⟨_, rfl⟩
      rw [hcm]
      have HCMM := hide hcm
      clear hcm
      go_upto_region 25 with fail
      generalize wr = w4 at *
      have HAW := hide (fun W => awake_any W)
      have hcts := HEM.out.counts
      rw [List.length_map, HON.out] at hcts
      have HCT := hide hcts
      clear hcts
      have hun2 : un ≤ 200 := by
        have h1 := List.length_filter_le isLost ts
        rw [HTN.out] at h1
        rw [← HUNN.out, HEM.out.len, List.length_map, HON.out]
        omega
      go_loopw [16, 17, 18] (fun av ev qv wx => ∃ q : Nat, q ≤ un ∧ qv = .int .i64 q ∧ av = .int .i64 ((n3 (O'.take q) : Nat) : Int) ∧ ev = .int .i64 ((n6 (O'.take q) : Nat) : Int) ∧ Below w4.heap.size w4 wx) (fun _ _ qv _ => un - (iv qv).toNat)
      case atStart => exact ⟨0, by omega, rfl, rfl, rfl, Below.refl _ _⟩
      case round =>
        obtain ⟨q, hqn, rfl, rfl, rfl, hBq⟩ := hrel
        have HBQ := hide hBq
        clear hBq
        obtain ⟨A, hA⟩ : ∃ A, n3 (O'.take q) = A := ⟨_, rfl⟩
        obtain ⟨E, hE⟩ : ∃ E, n6 (O'.take q) = E := ⟨_, rfl⟩
        have HA := hide hA
        have HE := hide hE
        rw [hA, hE]
        have hEl : E ≤ q := by rw [← hE]; exact Nat.le_trans List.countP_le_length (by rw [List.length_take]; omega)
        clear hA hE
        by_cases hqlt : q < un
        · obtain ⟨x, hx⟩ : ∃ x, O'[q]? = some x := ⟨_, List.getElem?_eq_getElem (by rw [HUNN.out]; exact hqlt)⟩
          obtain ⟨gu, cu', _, hvu, _, hgu, _⟩ := own_some HRO.out (by rw [HUNN.out]; omega)
          injection hvu with hau _ hcu
          subst hau; subst hcu
          have HB24 : Hid (Below w3.heap.size w3 wr) := HB4.out.trans (HBQ.out.mono HB4.out.size)
          have hgl := (Array.getElem?_eq_some_iff.1 hgu).1
          have HUX : Hid (wr.rangeAt gu (q * 11) (recCells x)) := fun i v hv => (HB24.out.cell (p := ⟨gu, q * 11 + i, none⟩) hgl).trans (recrow_range HRO.out q x hx i v hv)
          have HXI := hide hx
          rcases HEM.out.at q x hx with he | ⟨r, g, cc, cur, he, hr, hgk, htk⟩
          · have u0 : wr.cell? ⟨gu, q * 11, none⟩ = some (.int .i64 6) := by rw [he] at HUX; exact HUX.out 0 _ rfl
            have HX6 : Hid (x.kind = 6) := by show _ = _; rw [he]; rfl
            clear hx he
            go_wp2
            go_roundw
            case rel =>
              have e1 : n3 (O'.take (q + 1)) = A := by rw [take_snoc HXI.out]; unfold n3; rw [List.countP_append]; simp [HX6.out]; exact HA.out
              have e2 : n6 (O'.take (q + 1)) = E + 1 := by rw [take_snoc HXI.out]; unfold n6; rw [List.countP_append]; simp [HX6.out]; exact HE.out
              exact ⟨q + 1, by omega, by go_num, by rw [e1], by rw [e2]; first | done | go_num, HBQ.out⟩
            case measure => simp [iv]; omega
          · rw [HA.out, List.getElem?_map] at hr
            obtain ⟨p, hp, hpr⟩ := Option.map_eq_some_iff.1 hr
            have hAl : A < on := by rw [← HON.out]; exact (List.getElem?_eq_some_iff.1 hp).1
            have hop := (opens_mem L p).1 (List.mem_of_getElem? hp)
            have hpi : L[p]? = some r ∧ r.kind = 2 := by
              unfold isOpen at hop
              cases hLp : L[p]? with
              | none => rw [hLp] at hop; cases hop
              | some r' =>
                rw [lnAt_eq hLp] at hpr
                subst hpr
                rw [hLp] at hop
                simp only [Bool.and_eq_true, beq_iff_eq] at hop
                exact ⟨rfl, hop.1.1⟩
            obtain ⟨hpL, hk2⟩ := hpi
            obtain ⟨g', v, esb, hg'⟩ := HBY.out r (List.mem_of_getElem? hpL) hk2
            have hbs : bsAt w1 r = [byteOf v] := bsAt_one esb hg'
            rw [hbs] at he htk
            have hcur : w3.heap[g]? = some (.cells cur 5 (0, 0)) := HK.out _ hgk
            have hb1 : wr.cell? ⟨g, 0, none⟩ = some (byteOf v) := by
              refine (HB24.out.cell (p := ⟨g, 0, none⟩) (Array.getElem?_eq_some_iff.1 hcur).1).trans ?_
              rw [cell_of_row _ _ _ _ _ _ hcur]
              have h0 := congrArg (fun l => l[0]?) htk
              simp at h0
              simpa using h0
            have HB1q : Hid (Below w1.heap.size w1 wr) := HB13.out.trans (HB24.out.mono HB13.out.size)
            have hb2 : wr.cell? ⟨g', 0, none⟩ = some (byteOf v) := (HB1q.out.cell (p := ⟨g', 0, none⟩) (Array.getElem?_eq_some_iff.1 hg').1).trans (by rw [cell_of_row _ _ _ _ _ _ hg']; rfl)
            obtain ⟨_, b, o, hab, hbl, hrg⟩ := HLI.out.2 p r hpL
            have HRR : Hid (wr.rangeAt b (o + p * 12 + 1) (recCells r)) := rec_of_ln (fun i v hv => (HB1q.out.cell (p := ⟨b, o + p * 12 + i, none⟩) hbl).trans (hrg i v hv))
            have hpl : p < ln := by rw [← HLN.out]; exact (List.getElem?_eq_some_iff.1 hpL).1
            -- the open row
            obtain ⟨go, co', _, hvo, _, hgo, _⟩ := own_some HOP.out (by omega)
            injection hvo with hao _ hco
            subst hao; subst hco
            have ho1 : wr.cell? ⟨go, A, none⟩ = some (.int .i64 (p : Int)) := by
              have h := HOP.out
              rw [← HON.out, ← castN_length] at h
              exact (HBQ.out.cell (p := ⟨go, A, none⟩) (Array.getElem?_eq_some_iff.1 hgo).1).trans (ints_at h A p (by unfold castN; rw [List.getElem?_map, hp]; rfl))
            rw [he] at HUX
            have u0 : wr.cell? ⟨gu, q * 11, none⟩ = some (.int .i64 3) := HUX.out 0 _ rfl
            have HX3 : Hid (x.kind = 3) := by show _ = _; rw [he]; rfl
            subst hab
            have HUC := hide HUX.out
            unfold recCells at HRR
            have HSB := hide esb
            have HBB := hide (And.intro hb1 hb2)
            clear hx he hr hp hpr hop hpL hk2 hg' hbs htk hcur hgk hrg hb1 hb2 HUX esb
            go_upto_region 32 with (refine wpList_load_mid (by rfl) 32 _ (by rfl) b (o + p * 12 + 1) (by rfl) _ _ HRR.out Try.underlying32 rfl Try.size32n ?_)
            generalize hx5 : wr.alloc _ = x5
            have hG5 : x5.heap[wr.heap.size]? = some (.cells (recCells r).toArray 32 (0, 0)) := by rw [← hx5]; exact heap_alloc_new _ _
            have hBx : Below wr.heap.size wr x5 := by rw [← hx5]; exact (Below.refl _ _).alloc (Nat.le_refl _) _
            have HB45 : Hid (Below w4.heap.size w4 x5) := HBQ.out.trans (hBx.mono HBQ.out.size)
            have tr : ∀ (z k : Nat) (u : Value), wr.cell? ⟨z, k, none⟩ = some u → x5.cell? ⟨z, k, none⟩ = some u := fun z k u h => (hBx.cell (p := ⟨z, k, none⟩) (World.block_lt_of_cell? _ _ h)).trans h
            have f1 := tr _ _ _ HBB.out.1
            have f2 := tr _ _ _ HBB.out.2
            have hc1 : ∀ n, (convert 30 9 (.slice (some ⟨g, 0, none⟩) 1 cc)).run Try.prog (x5.drewN n) = .ok (.string (ByteArray.empty.push (UInt8.ofNat v))) (x5.drewN n) := fun n => conv_one _ g cc v f1
            have hc2 : ∀ n, (convert 30 9 (.slice (some ⟨g', 0, none⟩) 1 1)).run Try.prog (x5.drewN n) = .ok (.string (ByteArray.empty.push (UInt8.ofNat v))) (x5.drewN n) := fun n => conv_one _ g' 1 v f2
            have y1 : x5.cell? ⟨wr.heap.size, 1, none⟩ = some (.int .i64 r.txn) := by rw [cell_of_row _ _ _ _ _ _ hG5]; rfl
            have y2 : x5.cell? ⟨wr.heap.size, 2, none⟩ = some (.int .i64 r.prev) := by rw [cell_of_row _ _ _ _ _ _ hG5]; rfl
            have y4 : x5.cell? ⟨wr.heap.size, 4, none⟩ = some (.int .i64 r.page) := by rw [cell_of_row _ _ _ _ _ _ hG5]; rfl
            have y5 : x5.cell? ⟨wr.heap.size, 5, none⟩ = some (.int .i64 r.off) := by rw [cell_of_row _ _ _ _ _ _ hG5]; rfl
            have y6 : x5.cell? ⟨wr.heap.size, 6, none⟩ = some (.slice (some ⟨g', 0, none⟩) 1 1) := by
              rw [cell_of_row _ _ _ _ _ _ hG5]
              show some (Value.slice r.sb.a r.sb.n r.sb.c) = _
              rw [HSB.out]
              rfl
            have u1 : x5.cell? ⟨gu, q * 11 + 1, none⟩ = some (.int .i64 r.txn) := tr _ _ _ (HUC.out 1 _ rfl)
            have u3 : x5.cell? ⟨gu, q * 11 + 3, none⟩ = some (.int .i64 r.prev) := tr _ _ _ (HUC.out 3 _ rfl)
            have u4 : x5.cell? ⟨gu, q * 11 + 4, none⟩ = some (.int .i64 r.page) := tr _ _ _ (HUC.out 4 _ rfl)
            have u5 : x5.cell? ⟨gu, q * 11 + 5, none⟩ = some (.int .i64 r.off) := tr _ _ _ (HUC.out 5 _ rfl)
            have u7 : x5.cell? ⟨gu, q * 11 + 7, none⟩ = some (.slice (some ⟨g, 0, none⟩) 1 cc) := tr _ _ _ (HUC.out 7 _ rfl)
            clear hx5 hG5 hBx tr f1 f2 u0 HRR ho1
            generalize wr.heap.size = gx at *
            obtain ⟨r1, hr1⟩ : ∃ r1, r.txn = r1 := ⟨_, rfl⟩
            obtain ⟨r2, hr2⟩ : ∃ r2, r.prev = r2 := ⟨_, rfl⟩
            obtain ⟨r4, hr4⟩ : ∃ r4, r.page = r4 := ⟨_, rfl⟩
            obtain ⟨r5, hr5⟩ : ∃ r5, r.off = r5 := ⟨_, rfl⟩
            rw [hr1] at u1 y1
            rw [hr2] at u3 y2
            rw [hr4] at u4 y4
            rw [hr5] at u5 y5
            clear hr1 hr2 hr4 hr5
            have n1 : (r1 != r1) = false := by simp
            have n2 : (r2 != r2) = false := by simp
            have n4 : (r4 != r4) = false := by simp
            have n5 : (r5 != r5) = false := by simp
            obtain ⟨sv, hsv⟩ : ∃ sv, ByteArray.empty.push (UInt8.ofNat v) = sv := ⟨_, rfl⟩
            rw [hsv] at hc1 hc2
            clear hsv
            have n9' : (sv.toList != sv.toList) = false := by simp
            go_quiet (fail)
            go_wp2
            go_roundw
            case rel =>
              have e1 : n3 (O'.take (q + 1)) = A + 1 := by rw [take_snoc HXI.out]; unfold n3; rw [List.countP_append]; simp [HX3.out]; exact HA.out
              have e2 : n6 (O'.take (q + 1)) = E := by rw [take_snoc HXI.out]; unfold n6; rw [List.countP_append]; simp [HX3.out]; exact HE.out
              (repeat apply Exists.intro)
              refine ⟨?_, rfl⟩
              exact ⟨q + 1, by omega, by go_num, by rw [e1]; first | done | go_num, by rw [e2], HB45.out.trans (below_drewN _ _ _)⟩
            case measure => simp [iv]; omega
        · obtain rfl : q = un := by omega
          have e1 : A = on := by rw [← HA.out, List.take_of_length_le (by rw [HUNN.out]; exact Nat.le_refl _)]; exact HCT.out.1
          have e2 : E = (ts.filter isLost).length := by rw [← HE.out, List.take_of_length_le (by rw [HUNN.out]; exact Nat.le_refl _)]; exact HCT.out.2
          subst e1
          clear hqlt hqn
          go_upto_region 37 with fail
          have HB25 : Hid (Below w2.heap.size w2 wr) := HB3.out.trans ((HB4.out.mono HB3.out.size).trans (HBQ.out.mono (Nat.le_trans HB3.out.size HB4.out.size)))
          have HE2 := hide e2
          clear e2
          generalize wr = w5 at *
          go_loopw [20, 21] (fun lv qv wx => ∃ j : Nat, j ≤ tn ∧ qv = .int .i64 j ∧ lv = .int .i64 ((((ts.take j).filter isLost).length : Nat) : Int) ∧ Below w5.heap.size w5 wx) (fun _ qv _ => tn - (iv qv).toNat)
          case atStart => exact ⟨0, by omega, rfl, rfl, Below.refl _ _⟩
          case round =>
            obtain ⟨j, hjn, rfl, rfl, hBj⟩ := hrel
            have HBJ := hide hBj
            clear hBj
            obtain ⟨F, hF⟩ : ∃ F, ((ts.take j).filter isLost).length = F := ⟨_, rfl⟩
            have HF := hide hF
            have hFl : F ≤ j := by rw [← hF]; exact Nat.le_trans (List.length_filter_le _ _) (by rw [List.length_take]; omega)
            rw [hF]
            clear hF
            by_cases hjlt : j < tn
            · obtain ⟨y, hy⟩ : ∃ y, ts[j]? = some y := ⟨_, List.getElem?_eq_getElem (by rw [HTN.out]; exact hjlt)⟩
              obtain ⟨b, o, hab, hbl, hrg⟩ := HTX.out j y hy
              have s2 : wr.cell? ⟨b, o + j * 3 + 2, none⟩ = some (.int .i64 y.st) := (HBJ.out.cell (p := ⟨b, o + j * 3 + 2, none⟩) (Nat.lt_of_lt_of_le hbl HB25.out.size)).trans ((HB25.out.cell (p := ⟨b, o + j * 3 + 2, none⟩) hbl).trans (hrg 2 _ rfl))
              have HTK : Hid (ts.take (j + 1) = ts.take j ++ [y]) := by
                show _ = _
                obtain ⟨hl', hx'⟩ := List.getElem?_eq_some_iff.1 hy
                rw [← hx']
                exact List.take_succ_eq_append_getElem hl'
              have HIL : Hid (isLost y = (y.st != 2)) := rfl
              obtain ⟨st, hst⟩ : ∃ st, y.st = st := ⟨_, rfl⟩
              rw [hst] at s2 HIL
              clear hst hrg hy
              subst hab
              by_cases hs : st = 2
              · subst hs
                go_wp2
                go_roundw
                case rel => exact ⟨j + 1, by omega, by go_num, by rw [HTK.out, List.filter_append, List.length_append, HF.out]; simp [HIL.out], HBJ.out⟩
                case measure => simp [iv]; omega
              · have hsb : (st != 2) = true := by simp [hs]
                go_wp2
                go_roundw
                case rel =>
                  have e1 : ((ts.take (j + 1)).filter isLost).length = F + 1 := by rw [HTK.out, List.filter_append, List.length_append, HF.out]; simp [HIL.out, hs]
                  exact ⟨j + 1, by omega, by go_num, by rw [e1]; first | done | go_num, HBJ.out⟩
                case measure => simp [iv]; omega
            · obtain rfl : j = tn := by omega
              have e3 : E = F := by rw [HE2.out, ← HF.out, List.take_of_length_le (by rw [HTN.out]; exact Nat.le_refl _)]
              subst e3
              go_wp2_with (go_at_call 10; refine (HAW.out _).mono ?_; rintro e w7 ⟨rfl, hb7⟩; have HB7 := hide hb7; clear hb7)
              go_ret
              have hbw : Below w.heap.size w wr := HB1.out.trans ((HB2.out.mono HB1.out.size).trans ((HB25.out.mono (Nat.le_trans HB1.out.size HB2.out.size)).trans (HBJ.out.mono (Nat.le_trans HB1.out.size (Nat.le_trans HB2.out.size HB25.out.size)))))
              exact ⟨rfl, hbw.trans (HB7.out.mono hbw.size)⟩
    · obtain ⟨t, ht⟩ : ∃ t : Nat, t + 1 = m := ⟨m - 1, by omega⟩
      subst ht
      have hti : (((t + 1 : Nat) : Int) - 1) = (t : Int) := by omega
      rw [hti]
      clear hti hm0
      obtain ⟨r, hr⟩ : ∃ r, L[t]? = some r := ⟨_, List.getElem?_eq_getElem (by rw [HLN.out]; omega)⟩
      obtain ⟨hok, b, o, hab, hbl, hrg⟩ := HLI.out.2 t r hr
      have HB14 : Hid (Below w1.heap.size w1 wr) := HB13.out.trans (HB4.out.mono HB13.out.size)
      have HRX : Hid (wr.rangeAt b (o + t * 12) (lnCells r)) := fun i v hv => (HB14.out.cell (p := ⟨b, o + t * 12 + i, none⟩) hbl).trans (hrg i v hv)
      have HRR : Hid (wr.rangeAt b (o + t * 12 + 1) (recCells r)) := rec_of_ln HRX.out
      have HRI := hide hr
      have HRL : Hid (w1.rangeAt b (o + t * 12) (lnCells r)) := hrg
      obtain ⟨cmm, hcmm⟩ : ∃ cmm, comN (L.drop (t + 1)) = cmm := ⟨_, rfl⟩
      have HCM := hide hcmm
      obtain ⟨on, hon⟩ : ∃ on, (opens L (t + 1)).length = on := ⟨_, rfl⟩
      have HON := hide hon
      rw [hcmm] at hcl ⊢
      rw [hon] at hol HOP ⊢
      unfold recCells at HRR
      clear hr hrg hcmm hon
      rw [hab]
      go_upto_region 10 with (refine wpList_load_mid (by rfl) 32 _ (by rfl) b (o + t * 12 + 1) (by rfl) _ _ HRR.out Try.underlying32 rfl Try.size32n ?_)
      generalize hx3 : wr.alloc _ = x3
      have hG : x3.heap[wr.heap.size]? = some (.cells (recCells r).toArray 32 (0, 0)) := by rw [← hx3]; exact heap_alloc_new _ _
      have hBx : Below wr.heap.size wr x3 := by rw [← hx3]; exact (Below.refl _ _).alloc (Nat.le_refl _) _
      have HB43 : Hid (Below w3.heap.size w3 x3) := HB4.out.trans (hBx.mono HB4.out.size)
      have HOP3 : Hid (x3.ownsRow w3.heap.size 3 1 (.slice ao on co) on (intCells (castN (opens L (t + 1))))) := owns_of_blockB HOP.out (fun q hq => hBx.block q (HOP.out.lt q hq).2)
      have c0 : x3.cell? ⟨wr.heap.size, 0, none⟩ = some (.int .i64 r.kind) := by rw [cell_of_row _ _ _ _ _ _ hG]; rfl
      have HG := hide hG
      clear hx3 hBx HRR HOP hG
      generalize wr.heap.size = gr at *
      by_cases hk4 : r.kind = 4
      · have HK4 := hide hk4
        rw [hk4] at c0
        clear hk4
        go_wp2
        go_roundw
        case rel =>
          refine ⟨t, by omega, rfl, ?_, ?_, HB43.out⟩
          · rw [comN_drop HRI.out, HCM.out]; unfold com; rw [if_pos HK4.out]; congr 1; omega
          · rw [opens_step L t (by rw [HLN.out]; omega), isOpen_ne HRI.out (by rw [HK4.out]; decide), if_neg (by simp), List.append_nil, HON.out]; exact HOP3.out
        case measure => simp [iv]
      · by_cases hk2 : r.kind = 2
        · have HK2 := hide hk2
          rw [hk2] at c0
          clear hk2 hk4
          go_upto_region 15 with fail
          go_loopw [12, 13, 14] (fun wv gv kv wx => ∃ q : Nat, t < q ∧ q ≤ ln ∧ kv = .int .i64 q ∧ wv = .bool ((between L t q).any (wins r)) ∧ gv = .int .i64 (((between L t q).countP (goes r) : Nat) : Int) ∧ Below x3.heap.size x3 wx) (fun _ _ kv _ => ln - (iv kv).toNat)
          case atStart => exact ⟨t + 1, by omega, by omega, by go_num, by rw [between_start]; rfl, by rw [between_start]; rfl, Below.refl _ _⟩
          case round =>
            clear c0
            obtain ⟨q, htq, hqn, rfl, rfl, rfl, hBq⟩ := hrel
            have HBQ := hide hBq
            clear hBq
            obtain ⟨Wb, hW⟩ : ∃ Wb, (between L t q).any (wins r) = Wb := ⟨_, rfl⟩
            obtain ⟨G, hGG⟩ : ∃ G, (between L t q).countP (goes r) = G := ⟨_, rfl⟩
            have HW := hide hW
            have HGG := hide hGG
            have hGl : G ≤ ln := by rw [← hGG]; exact Nat.le_trans List.countP_le_length (Nat.le_trans (between_len L t q (by rw [HLN.out]; exact hqn)) hqn)
            rw [hW, hGG]
            clear hW hGG
            by_cases hqlt : q < ln
            · obtain ⟨x, hx⟩ : ∃ x, L[q]? = some x := ⟨_, List.getElem?_eq_getElem (by rw [HLN.out]; omega)⟩
              obtain ⟨_, b', o', hab', hbl', hrg'⟩ := HLI.out.2 q x hx
              rw [hab] at hab'
              injection hab' with hab'
              injection hab' with q1 q2 _
              subst q1; subst q2
              have HB1q : Hid (Below w1.heap.size w1 wr) := HB13.out.trans ((HB43.out.mono HB13.out.size).trans (HBQ.out.mono (Nat.le_trans HB13.out.size HB43.out.size)))
              have HRRx : Hid (wr.rangeAt b (o + q * 12 + 1) (recCells x)) := rec_of_ln (fun i v hv => (HB1q.out.cell (p := ⟨b, o + q * 12 + i, none⟩) hbl').trans (hrg' i v hv))
              have l0 : wr.cell? ⟨b, o + t * 12, none⟩ = some (.int .i64 r.lsn) := (HB1q.out.cell (p := ⟨b, o + t * 12, none⟩) hbl').trans (HRL.out 0 _ rfl)
              have g1 : wr.cell? ⟨gr, 1, none⟩ = some (.int .i64 r.txn) := (HBQ.out.cell (p := ⟨gr, 1, none⟩) (Array.getElem?_eq_some_iff.1 HG.out).1).trans (by rw [cell_of_row _ _ _ _ _ _ HG.out]; rfl)
              have HXI := hide hx
              unfold recCells at HRRx
              clear hrg' hx
              go_upto_region 18 with (refine wpList_load_mid (by rfl) 32 _ (by rfl) b (o + q * 12 + 1) (by rfl) _ _ HRRx.out Try.underlying32 rfl Try.size32n ?_)
              generalize hx4 : wr.alloc _ = x4
              have hG4 : x4.heap[wr.heap.size]? = some (.cells (recCells x).toArray 32 (0, 0)) := by rw [← hx4]; exact heap_alloc_new _ _
              have hBx : Below wr.heap.size wr x4 := by rw [← hx4]; exact (Below.refl _ _).alloc (Nat.le_refl _) _
              have HB44 : Hid (Below x3.heap.size x3 x4) := HBQ.out.trans (hBx.mono HBQ.out.size)
              have y0 : x4.cell? ⟨wr.heap.size, 0, none⟩ = some (.int .i64 x.kind) := by rw [cell_of_row _ _ _ _ _ _ hG4]; rfl
              have y1 : x4.cell? ⟨wr.heap.size, 1, none⟩ = some (.int .i64 x.txn) := by rw [cell_of_row _ _ _ _ _ _ hG4]; rfl
              have y3 : x4.cell? ⟨wr.heap.size, 3, none⟩ = some (.int .i64 x.next) := by rw [cell_of_row _ _ _ _ _ _ hG4]; rfl
              have l0' : x4.cell? ⟨b, o + t * 12, none⟩ = some (.int .i64 r.lsn) := (hBx.cell (p := ⟨b, o + t * 12, none⟩) (World.block_lt_of_cell? _ _ l0)).trans l0
              have g1' : x4.cell? ⟨gr, 1, none⟩ = some (.int .i64 r.txn) := (hBx.cell (p := ⟨gr, 1, none⟩) (World.block_lt_of_cell? _ _ g1)).trans g1
              have HWN : Hid (wins r x = (x.kind == 4 && x.txn == r.txn)) := rfl
              have HGN : Hid (goes r x = (x.kind == 3 && x.txn == r.txn && decide (x.next < r.lsn))) := rfl
              clear hx4 hG4 hBx l0 g1 HRRx
              generalize wr.heap.size = gx at *
              obtain ⟨xk, hxk⟩ : ∃ xk, x.kind = xk := ⟨_, rfl⟩
              obtain ⟨xt, hxt⟩ : ∃ xt, x.txn = xt := ⟨_, rfl⟩
              obtain ⟨xn, hxn⟩ : ∃ xn, x.next = xn := ⟨_, rfl⟩
              rw [hxk] at y0
              rw [hxt] at y1
              rw [hxn] at y3
              rw [hxk, hxt] at HWN HGN
              rw [hxn] at HGN
              clear hxk hxt hxn
              obtain ⟨rt, hrt⟩ : ∃ rt, r.txn = rt := ⟨_, rfl⟩
              obtain ⟨rl, hrl⟩ : ∃ rl, r.lsn = rl := ⟨_, rfl⟩
              rw [hrt] at g1' HWN HGN
              rw [hrl] at l0' HGN
              clear hrt hrl
              cases Wb with
              | true =>
                by_cases h4 : xk = 4
                · subst h4
                  by_cases hte : xt = rt
                  · subst hte
                    have HW1 : Hid (wins r x = true) := HWN.out.trans (by simp [*])
                    have HG1 : Hid (goes r x = false) := HGN.out.trans (by simp [*])
                    clear HWN HGN
                    go_upto_region 19 with fail
                    go_quiet (fail)
                    go_wp2
                    go_roundw
                    case rel =>
                      have e1 : (between L t (q + 1)).any (wins r) = (true || true) := by rw [between_step HXI.out htq, List.any_append, HW.out]; simp [HW1.out]
                      have e2 : (between L t (q + 1)).countP (goes r) = G := by rw [between_step HXI.out htq, List.countP_append, HGG.out]; simp [List.countP_cons, HG1.out]
                      exact ⟨q + 1, by omega, by omega, by go_num, by rw [e1]; rfl, by rw [e2], HB44.out.trans (below_drewN _ _ _)⟩
                    case measure => simp [iv]; omega
                  · have htb : (xt == rt) = false := beq_eq_false_iff_ne.2 hte
                    have HW1 : Hid (wins r x = false) := HWN.out.trans (by simp [*])
                    have HG1 : Hid (goes r x = false) := HGN.out.trans (by simp [*])
                    clear HWN HGN
                    go_upto_region 19 with fail
                    go_quiet (fail)
                    go_wp2
                    go_roundw
                    case rel =>
                      have e1 : (between L t (q + 1)).any (wins r) = (true || false) := by rw [between_step HXI.out htq, List.any_append, HW.out]; simp [HW1.out]
                      have e2 : (between L t (q + 1)).countP (goes r) = G := by rw [between_step HXI.out htq, List.countP_append, HGG.out]; simp [List.countP_cons, HG1.out]
                      exact ⟨q + 1, by omega, by omega, by go_num, by rw [e1]; rfl, by rw [e2], HB44.out.trans (below_drewN _ _ _)⟩
                    case measure => simp [iv]; omega
                · by_cases h3 : xk = 3
                  · subst h3
                    by_cases hte : xt = rt
                    · subst hte
                      by_cases hnl : xn < rl
                      · have hnb : decide (xn < rl) = true := decide_eq_true hnl
                        have HW1 : Hid (wins r x = false) := HWN.out.trans (by simp [*])
                        have HG1 : Hid (goes r x = true) := HGN.out.trans (by simp [*])
                        clear HWN HGN
                        go_upto_region 19 with fail
                        go_quiet (fail)
                        go_wp2
                        go_roundw
                        case rel =>
                          have e1 : (between L t (q + 1)).any (wins r) = (true || false) := by rw [between_step HXI.out htq, List.any_append, HW.out]; simp [HW1.out]
                          have e2 : (between L t (q + 1)).countP (goes r) = G + 1 := by rw [between_step HXI.out htq, List.countP_append, HGG.out]; simp [List.countP_cons, HG1.out]
                          exact ⟨q + 1, by omega, by omega, by go_num, by rw [e1]; rfl, by rw [e2]; first | done | go_num, HB44.out.trans (below_drewN _ _ _)⟩
                        case measure => simp [iv]; omega
                      · have hnb : decide (xn < rl) = false := decide_eq_false hnl
                        have HW1 : Hid (wins r x = false) := HWN.out.trans (by simp [*])
                        have HG1 : Hid (goes r x = false) := HGN.out.trans (by simp [*])
                        clear HWN HGN
                        go_upto_region 19 with fail
                        go_quiet (fail)
                        go_wp2
                        go_roundw
                        case rel =>
                          have e1 : (between L t (q + 1)).any (wins r) = (true || false) := by rw [between_step HXI.out htq, List.any_append, HW.out]; simp [HW1.out]
                          have e2 : (between L t (q + 1)).countP (goes r) = G := by rw [between_step HXI.out htq, List.countP_append, HGG.out]; simp [List.countP_cons, HG1.out]
                          exact ⟨q + 1, by omega, by omega, by go_num, by rw [e1]; rfl, by rw [e2], HB44.out.trans (below_drewN _ _ _)⟩
                        case measure => simp [iv]; omega
                    · have htb : (xt == rt) = false := beq_eq_false_iff_ne.2 hte
                      have HW1 : Hid (wins r x = false) := HWN.out.trans (by simp [*])
                      have HG1 : Hid (goes r x = false) := HGN.out.trans (by simp [*])
                      clear HWN HGN
                      go_upto_region 19 with fail
                      go_quiet (fail)
                      go_wp2
                      go_roundw
                      case rel =>
                        have e1 : (between L t (q + 1)).any (wins r) = (true || false) := by rw [between_step HXI.out htq, List.any_append, HW.out]; simp [HW1.out]
                        have e2 : (between L t (q + 1)).countP (goes r) = G := by rw [between_step HXI.out htq, List.countP_append, HGG.out]; simp [List.countP_cons, HG1.out]
                        exact ⟨q + 1, by omega, by omega, by go_num, by rw [e1]; rfl, by rw [e2], HB44.out.trans (below_drewN _ _ _)⟩
                      case measure => simp [iv]; omega
                  · have hb4 : (xk == 4) = false := beq_eq_false_iff_ne.2 h4
                    have hb3 : (xk == 3) = false := beq_eq_false_iff_ne.2 h3
                    have HW1 : Hid (wins r x = false) := HWN.out.trans (by simp [*])
                    have HG1 : Hid (goes r x = false) := HGN.out.trans (by simp [*])
                    clear HWN HGN
                    go_upto_region 19 with fail
                    go_quiet (fail)
                    go_wp2
                    go_roundw
                    case rel =>
                      have e1 : (between L t (q + 1)).any (wins r) = (true || false) := by rw [between_step HXI.out htq, List.any_append, HW.out]; simp [HW1.out]
                      have e2 : (between L t (q + 1)).countP (goes r) = G := by rw [between_step HXI.out htq, List.countP_append, HGG.out]; simp [List.countP_cons, HG1.out]
                      exact ⟨q + 1, by omega, by omega, by go_num, by rw [e1]; rfl, by rw [e2], HB44.out.trans (below_drewN _ _ _)⟩
                    case measure => simp [iv]; omega
              | false =>
                by_cases h4 : xk = 4
                · subst h4
                  by_cases hte : xt = rt
                  · subst hte
                    have HW1 : Hid (wins r x = true) := HWN.out.trans (by simp [*])
                    have HG1 : Hid (goes r x = false) := HGN.out.trans (by simp [*])
                    clear HWN HGN
                    go_upto_region 19 with fail
                    go_quiet (fail)
                    go_wp2
                    go_roundw
                    case rel =>
                      have e1 : (between L t (q + 1)).any (wins r) = (false || true) := by rw [between_step HXI.out htq, List.any_append, HW.out]; simp [HW1.out]
                      have e2 : (between L t (q + 1)).countP (goes r) = G := by rw [between_step HXI.out htq, List.countP_append, HGG.out]; simp [List.countP_cons, HG1.out]
                      exact ⟨q + 1, by omega, by omega, by go_num, by rw [e1]; rfl, by rw [e2], HB44.out.trans (below_drewN _ _ _)⟩
                    case measure => simp [iv]; omega
                  · have htb : (xt == rt) = false := beq_eq_false_iff_ne.2 hte
                    have HW1 : Hid (wins r x = false) := HWN.out.trans (by simp [*])
                    have HG1 : Hid (goes r x = false) := HGN.out.trans (by simp [*])
                    clear HWN HGN
                    go_upto_region 19 with fail
                    go_quiet (fail)
                    go_wp2
                    go_roundw
                    case rel =>
                      have e1 : (between L t (q + 1)).any (wins r) = (false || false) := by rw [between_step HXI.out htq, List.any_append, HW.out]; simp [HW1.out]
                      have e2 : (between L t (q + 1)).countP (goes r) = G := by rw [between_step HXI.out htq, List.countP_append, HGG.out]; simp [List.countP_cons, HG1.out]
                      exact ⟨q + 1, by omega, by omega, by go_num, by rw [e1]; rfl, by rw [e2], HB44.out.trans (below_drewN _ _ _)⟩
                    case measure => simp [iv]; omega
                · by_cases h3 : xk = 3
                  · subst h3
                    by_cases hte : xt = rt
                    · subst hte
                      by_cases hnl : xn < rl
                      · have hnb : decide (xn < rl) = true := decide_eq_true hnl
                        have HW1 : Hid (wins r x = false) := HWN.out.trans (by simp [*])
                        have HG1 : Hid (goes r x = true) := HGN.out.trans (by simp [*])
                        clear HWN HGN
                        go_upto_region 19 with fail
                        go_quiet (fail)
                        go_wp2
                        go_roundw
                        case rel =>
                          have e1 : (between L t (q + 1)).any (wins r) = (false || false) := by rw [between_step HXI.out htq, List.any_append, HW.out]; simp [HW1.out]
                          have e2 : (between L t (q + 1)).countP (goes r) = G + 1 := by rw [between_step HXI.out htq, List.countP_append, HGG.out]; simp [List.countP_cons, HG1.out]
                          exact ⟨q + 1, by omega, by omega, by go_num, by rw [e1]; rfl, by rw [e2]; first | done | go_num, HB44.out.trans (below_drewN _ _ _)⟩
                        case measure => simp [iv]; omega
                      · have hnb : decide (xn < rl) = false := decide_eq_false hnl
                        have HW1 : Hid (wins r x = false) := HWN.out.trans (by simp [*])
                        have HG1 : Hid (goes r x = false) := HGN.out.trans (by simp [*])
                        clear HWN HGN
                        go_upto_region 19 with fail
                        go_quiet (fail)
                        go_wp2
                        go_roundw
                        case rel =>
                          have e1 : (between L t (q + 1)).any (wins r) = (false || false) := by rw [between_step HXI.out htq, List.any_append, HW.out]; simp [HW1.out]
                          have e2 : (between L t (q + 1)).countP (goes r) = G := by rw [between_step HXI.out htq, List.countP_append, HGG.out]; simp [List.countP_cons, HG1.out]
                          exact ⟨q + 1, by omega, by omega, by go_num, by rw [e1]; rfl, by rw [e2], HB44.out.trans (below_drewN _ _ _)⟩
                        case measure => simp [iv]; omega
                    · have htb : (xt == rt) = false := beq_eq_false_iff_ne.2 hte
                      have HW1 : Hid (wins r x = false) := HWN.out.trans (by simp [*])
                      have HG1 : Hid (goes r x = false) := HGN.out.trans (by simp [*])
                      clear HWN HGN
                      go_upto_region 19 with fail
                      go_quiet (fail)
                      go_wp2
                      go_roundw
                      case rel =>
                        have e1 : (between L t (q + 1)).any (wins r) = (false || false) := by rw [between_step HXI.out htq, List.any_append, HW.out]; simp [HW1.out]
                        have e2 : (between L t (q + 1)).countP (goes r) = G := by rw [between_step HXI.out htq, List.countP_append, HGG.out]; simp [List.countP_cons, HG1.out]
                        exact ⟨q + 1, by omega, by omega, by go_num, by rw [e1]; rfl, by rw [e2], HB44.out.trans (below_drewN _ _ _)⟩
                      case measure => simp [iv]; omega
                  · have hb4 : (xk == 4) = false := beq_eq_false_iff_ne.2 h4
                    have hb3 : (xk == 3) = false := beq_eq_false_iff_ne.2 h3
                    have HW1 : Hid (wins r x = false) := HWN.out.trans (by simp [*])
                    have HG1 : Hid (goes r x = false) := HGN.out.trans (by simp [*])
                    clear HWN HGN
                    go_upto_region 19 with fail
                    go_quiet (fail)
                    go_wp2
                    go_roundw
                    case rel =>
                      have e1 : (between L t (q + 1)).any (wins r) = (false || false) := by rw [between_step HXI.out htq, List.any_append, HW.out]; simp [HW1.out]
                      have e2 : (between L t (q + 1)).countP (goes r) = G := by rw [between_step HXI.out htq, List.countP_append, HGG.out]; simp [List.countP_cons, HG1.out]
                      exact ⟨q + 1, by omega, by omega, by go_num, by rw [e1]; rfl, by rw [e2], HB44.out.trans (below_drewN _ _ _)⟩
                    case measure => simp [iv]; omega
            · obtain rfl : q = ln := by omega
              have HIO : Hid (isOpen L t = (!Wb && G == 0)) := by
                show _ = _
                rw [isOpen_eq HRI.out HK2.out, ← between_end L t, HLN.out, HW.out, HGG.out]
              have HOQ : Hid (wr.ownsRow w3.heap.size 3 1 (.slice ao on co) on (intCells (castN (opens L (t + 1))))) := owns_of_blockB HOP3.out (fun z hz => HBQ.out.block z (HOP3.out.lt z hz).2)
              have HB4q : Hid (Below w3.heap.size w3 wr) := HB43.out.trans (HBQ.out.mono HB43.out.size)
              clear hqlt hqn
              cases Wb with
              | true =>
                go_wp2
                go_roundw
                case rel =>
                  refine ⟨t, by omega, rfl, ?_, ?_, HB4q.out⟩
                  · rw [comN_drop HRI.out, HCM.out]; unfold com; rw [if_neg (by rw [HK2.out]; decide)]; congr 1; omega
                  · rw [opens_step L t (by rw [HLN.out]; omega), HIO.out, if_neg (by simp), List.append_nil, HON.out]; exact HOQ.out
                case measure => simp [iv]
              | false =>
                by_cases hG0 : G = 0
                · subst hG0
                  have HOWN : Hid ((wr.alloc (.cells #[.int .i64 (t : Int)] 3)).ownsRow 0 3 1 (.slice ao on co) on (intCells (castN (opens L (t + 1))))) := owns_of_block (owns_zero HOQ.out) (fun z hz => Below.heap_alloc wr _ z (HOQ.out.lt z hz).2)
                  have HSRC : Hid (∀ j u, [Value.int .i64 (t : Int)][j]? = some u → (wr.alloc (.cells #[.int .i64 (t : Int)] 3)).cell? ((⟨wr.heap.size, 0, none⟩ : Addr).add j) = some u) := src_of_block (X := [Value.int .i64 (t : Int)]) (heap_alloc_new wr _)
                  go_wp2_with (refine wpList_append_owned (by rfl) _ _ 49 (by rfl) 3 (.int .i64 0) 1 8 Try.underlying49 Try.info3 rfl (by omega) (.slice ao on co) on (intCells (castN (opens L (t + 1)))) (by rfl) HOWN.out ⟨wr.heap.size, 0, none⟩ 1 1 [Value.int .i64 (t : Int)] (by rfl) (by rfl) HSRC.out (by intro u hu; simp at hu; subst hu; rfl) (by simp only [maxLen]; omega) (by omega) (fun v6 w6 r1 r2 r3 => ?_)
                               have HR6 := hide (And.intro r1 (And.intro r2 r3))
                               clear r1 r2 r3)
                  go_roundw
                  case rel =>
                    have eo : opens L t = opens L (t + 1) ++ [t] := by rw [opens_step L t (by rw [HLN.out]; omega), HIO.out]; rfl
                    refine ⟨t, by omega, rfl, ?_, ?_, ?_⟩
                    · rw [comN_drop HRI.out, HCM.out]; unfold com; rw [if_neg (by rw [HK2.out]; decide)]; congr 1; omega
                    · have e1 : (opens L t).length = on + 1 := by rw [eo, List.length_append, HON.out]; rfl
                      have e2 : intCells (castN (opens L t)) = intCells (castN (opens L (t + 1))) ++ [.int .i64 (t : Int)] := by rw [eo]; simp [castN, intCells]
                      rw [e1, e2]
                      refine owns_base HR6.out.1 (fun z hz => ?_)
                      rcases HR6.out.2.2 z hz with h | h
                      · exact (HOQ.out.lt z h).1
                      · have := HB4q.out.size
                        rw [World.size_alloc] at h
                        omega
                    · exact (HB4q.out.alloc HB4q.out.size _).grown HR6.out.2.1 (by have := HB4q.out.size; simp; omega) (fun z e => (HOQ.out.lt z e).1)
                  case measure => simp [iv]
                · have hGb : ((G : Int) == 0) = false := beq_eq_false_iff_ne.2 (by omega)
                  have HG0 := hide hG0
                  clear hG0
                  go_wp2
                  go_roundw
                  case rel =>
                    refine ⟨t, by omega, rfl, ?_, ?_, HB4q.out⟩
                    · rw [comN_drop HRI.out, HCM.out]; unfold com; rw [if_neg (by rw [HK2.out]; decide)]; congr 1; omega
                    · rw [opens_step L t (by rw [HLN.out]; omega), HIO.out, if_neg (by simp [HG0.out]), List.append_nil, HON.out]; exact HOQ.out
                  case measure => simp [iv]
        · have hk4b : (r.kind == 4) = false := beq_eq_false_iff_ne.2 hk4
          have hk2b : (r.kind != 2) = true := by simp [hk2]
          have HK2 := hide (And.intro hk4 hk2)
          clear hk2 hk4
          go_wp2
          go_roundw
          case rel =>
            refine ⟨t, by omega, rfl, ?_, ?_, HB43.out⟩
            · rw [comN_drop HRI.out, HCM.out]; unfold com; rw [if_neg HK2.out.1]; congr 1; omega
            · rw [opens_step L t (by rw [HLN.out]; omega), isOpen_ne HRI.out HK2.out.2, if_neg (by simp), List.append_nil, HON.out]; exact HOP3.out
          case measure => simp [iv]
end Go.Proofs.Ytpjppolbkdnkaaa
