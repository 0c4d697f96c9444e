/- The document's Redo: its walk. -/
import Derived.Test.YtpjppolbkdnkaaaRefR
namespace Go.Proofs.Ytpjppolbkdnkaaa
open Go.RowKit
set_option linter.unusedVariables false
set_option linter.unusedSimpArgs false

theorem own_len {w : World} {base : Nat} {e : TypeId} {size n : Nat} {v : Value} {xs : List Value} (h : w.ownsRow base e size v n xs) : ∃ ao c, v = .slice ao n c := by
  rcases h.2 with ⟨h1, h2⟩ | ⟨g, cap, cur, h1, _⟩
  · exact ⟨none, 0, by rw [h2]; exact h1⟩
  · exact ⟨_, _, h1⟩
structure Two (w0 w : World) (a b : Value) (N : List (Int × Int)) (O : List Int) : Prop where
  now : w.ownsRow w0.heap.size 52 2 a N.length (pgRow N)
  out : w.ownsRow w0.heap.size 3 1 b O.length (intCells O)
  ap : ∀ q, a.ownBlock = some q → b.ownBlock ≠ some q
  below : Below w0.heap.size w0 w
section
variable {w0 w w' : World} {a b : Value} {N : List (Int × Int)} {O : List Int}
theorem Two.stayD (x : Two w0 w a b N O) (hb : Below w.heap.size w w') : Two w0 w' a b N O where
  now := owns_of_blockB x.now (fun k hk => hb.block k (x.now.lt k hk).2)
  out := owns_of_blockB x.out (fun k hk => hb.block k (x.out.lt k hk).2)
  ap := x.ap
  below := x.below.trans (hb.mono x.below.size)
theorem Two.addNow (x : Two w0 w a b N O) (q : Int × Int) {v4 : Value} {w1 w4 : World} (hw1 : Off [] w w1) (r1 : w4.ownsRow 0 52 2 v4 (N.length + 1) (pgRow N ++ pgCells q)) (r2 : w1.grownBy w4 a.ownBlock)
    (r3 : ∀ k, v4.ownBlock = some k → a.ownBlock = some k ∨ w1.heap.size ≤ k) : Two w0 w4 v4 b (N ++ [q]) O := by
  have hsz := hw1.size
  have h0 := x.below.size
  have e1 : (N ++ [q]).length = N.length + 1 := by simp
  have e2 : pgRow (N ++ [q]) = pgRow N ++ pgCells q := by simp [pgRow]
  have hq : w4.ownsRow w0.heap.size 52 2 v4 (N ++ [q]).length (pgRow (N ++ [q])) := by
    rw [e1, e2]
    refine owns_base r1 (fun k hk => ?_)
    rcases r3 k hk with h | h
    · exact (x.now.lt k h).1
    · omega
  refine ⟨hq, ?_, fun k hk e => ?_, ?_⟩
  · exact owns_of_blockB x.out (fun k hk => (r2.block k (by have := (x.out.lt k hk).2; omega) (fun e => x.ap k e.symm hk)).trans (hw1.block k (x.out.lt k hk).2 (by simp)))
  · rcases r3 k hk with h | h
    · exact x.ap k h e
    · have := (x.out.lt k e).2; omega
  · exact x.below.trans ((((Off.refl a.ownBlock.toList w).trans hw1 (by simp)).grown r2 (fun k hk => .inl (by simp [hk]))).below h0 (fun k hk => (x.now.lt k (by simpa using hk)).1))
theorem Two.addOut (x : Two w0 w a b N O) (l : Int) {v4 : Value} {w1 w4 : World} (hw1 : Off [] w w1) (r1 : w4.ownsRow 0 3 1 v4 (O.length + 1) (intCells O ++ [.int .i64 l])) (r2 : w1.grownBy w4 b.ownBlock)
    (r3 : ∀ k, v4.ownBlock = some k → b.ownBlock = some k ∨ w1.heap.size ≤ k) : Two w0 w4 a v4 N (O ++ [l]) := by
  have hsz := hw1.size
  have h0 := x.below.size
  have e1 : (O ++ [l]).length = O.length + 1 := by simp
  have hq : w4.ownsRow w0.heap.size 3 1 v4 (O ++ [l]).length (intCells (O ++ [l])) := by
    rw [e1, intCells_snoc]
    refine owns_base r1 (fun k hk => ?_)
    rcases r3 k hk with h | h
    · exact (x.out.lt k h).1
    · omega
  refine ⟨?_, hq, fun k hk e => ?_, ?_⟩
  · exact owns_of_blockB x.now (fun k hk => (r2.block k (by have := (x.now.lt k hk).2; omega) (fun e => x.ap k hk e.symm)).trans (hw1.block k (x.now.lt k hk).2 (by simp)))
  · rcases r3 k e with h | h
    · exact x.ap k hk h
    · have := (x.now.lt k hk).2; omega
  · exact x.below.trans ((((Off.refl b.ownBlock.toList w).trans hw1 (by simp)).grown r2 (fun k hk => .inl (by simp [hk]))).below h0 (fun k hk => (x.out.lt k (by simpa using hk)).1))
theorem Two.setNow {g c : Nat} (x : Two w0 w (.slice (some ⟨g, 0, none⟩) N.length c) b N O) (i : Nat) (q : Int × Int) (h : N[i]? = some q) (v : Int) :
    Two w0 (w.setCell ⟨g, i * 2 + 1, none⟩ (.int .i64 v)) (.slice (some ⟨g, 0, none⟩) N.length c) b (N.set i (q.1, v)) O ∧ w.frozen? ⟨g, i * 2 + 1, none⟩ = false := by
  obtain ⟨h1, h2⟩ := pg_set x.now i q h v
  refine ⟨⟨by rw [List.length_set]; exact h1, ?_, x.ap, ?_⟩, h2⟩
  · exact owns_of_blockB x.out (fun k hk => heap_setCell_other w _ k _ (fun e => by have e : k = g := e; subst e; exact x.ap k rfl hk))
  · exact x.below.trans (((Off.refl [g] w).setCell _ _ (.inl (by simp))).below x.below.size (fun k hk => by simp at hk; rw [hk]; exact (x.now.lt g rfl).1))
end
theorem Try.buildPg (q : Int × Int) (W : World) : (Instr.buildSlice 50 1 #[(0, .agg (pgCells q).toArray)]).run Try.prog W = .ok (.slice (some ⟨W.heap.size, 0, none⟩) 1 1) (W.alloc (.cells (pgCells q).toArray 52)) := by kernel_rfl
set_option maxHeartbeats 8000000 in
set_option maxRecDepth 100000 in
theorem refRedo_any (w : World) (la : Option Addr) (lc : Nat) (L : List Ln) (hL : LinesAt w la L) (da : Option Addr) (dc : Nat) (D : List (Int × Int)) (hD : DirtsAt w da D) (pv : Value) (P : List (Int × Int)) (hP : w.ownsRow 0 52 2 pv P.length (pgRow P)) (hP0 : P = [] → pv = .slice none 0 0)
    (hLl : L.length ≤ 100) (hDl : D.length ≤ 30) (hPl : P.length ≤ 30) :
    Calls Try.prog 18 #[.slice la L.length lc, .slice da D.length dc, pv] w fun e w' => ∃ v, e = .returned v ∧ w'.ownsRow w.heap.size 3 1 v (refN D (P, []) L).2.length (intCells (refN D (P, []) L).2) ∧ Below w.heap.size w w' := by
  obtain ⟨n, hn⟩ : ∃ n, L.length = n := ⟨_, rfl⟩
  obtain ⟨dn, hdn⟩ : ∃ dn, D.length = dn := ⟨_, rfl⟩
  have HN := hide hn
  have HDN := hide hdn
  have HL := hide hL
  have HD := hide hD
  have HP := hide hP
  have HP0 := hide hP0
  rw [hn] at hLl ⊢
  rw [hdn] at hDl ⊢
  clear hn hdn hL hD hP hP0
  go_enter Try.func18, Try.ntmps18
  go_wp2_with (refine wpList_append_copy (by rfl) _ _ (by rfl) pv P (by rfl) (by rfl) HP.out HP0.out (by omega) (fun v7 w1 hr7 hb1 => ?_)
               obtain ⟨a7, c7, hv7⟩ := own_len hr7
               subst hv7
               have HR7 := hide (And.intro hr7 hb1)
               clear hr7 hb1)
  go_loopw [7, 8, 9] (fun a b i wx => ∃ k : Nat, k ≤ n ∧ i = .int .i64 k ∧ Two w wx a b (refN D (P, []) (L.take k)).1 (refN D (P, []) (L.take k)).2) (fun _ _ i _ => n - (iv i).toNat)
  case atStart => exact ⟨0, by omega, rfl, HR7.out.1, ⟨rfl, .inl ⟨rfl, rfl⟩⟩, by simp [Value.ownBlock], HR7.out.2⟩
  case round =>
    rename_i v7 v8 v9
    obtain ⟨k, hk, rfl, hT⟩ := hrel
    by_cases hlt : k < n
    · obtain ⟨x, hx⟩ : ∃ x, L[k]? = some x := ⟨_, List.getElem?_eq_getElem (by rw [HN.out]; exact hlt)⟩
      obtain ⟨hok, b, o, hab, hbl, hrg⟩ := HL.out.2 k x hx
      have HTK : Hid (refN D (P, []) (L.take (k + 1)) = ref1 D (refN D (P, []) (L.take k)) x) := by
        show _ = _
        obtain ⟨hl', hx'⟩ := List.getElem?_eq_some_iff.1 hx
        rw [List.take_succ_eq_append_getElem hl', hx', refN_snoc]
      have hlen := refN_len D (L.take k) (P, [])
      have htl : (L.take k).length ≤ k := by rw [List.length_take]; omega
      obtain ⟨S, hS⟩ : ∃ S, refN D (P, []) (L.take k) = S := ⟨_, rfl⟩
      rw [hS] at hT HTK hlen
      simp only [List.length_nil, Nat.zero_add] at hlen
      have hl1 : S.1.length ≤ 130 := by omega
      have hl2 : S.2.length ≤ 100 := by omega
      obtain ⟨m, hm⟩ : ∃ m, S.1.length = m := ⟨_, rfl⟩
      obtain ⟨a7', c7', rfl⟩ := own_len hT.now
      obtain ⟨a8', c8', rfl⟩ := own_len hT.out
      have HM := hide hm
      have HRG : Hid (∀ W, Below w.heap.size w W → W.rangeAt b (o + k * 12) (lnCells x)) := fun W hW j v hv => (hW.cell (p := ⟨b, o + k * 12 + j, none⟩) hbl).trans (hrg j v hv)
      have HRG1 := hide (rec_of_ln (HRG.out wr hT.below))
      have HT := hide hT
      rw [hm] at hl1
      rw [hm]
      clear hT hS hlen htl hrg hx hm
      unfold recCells at HRG1
      rw [hab]
      go_upto_region 8 with (refine wpList_load_mid (by rfl) 32 _ (by rfl) b (o + k * 12 + 1) (by rfl) _ _ HRG1.out Try.underlying32 rfl Try.size32n ?_)
      generalize hx1 : wr.alloc _ = x1
      have hG : x1.heap[wr.heap.size]? = some (.cells (recCells x).toArray 32 (0, 0)) := by rw [← hx1]; exact heap_alloc_new _ _
      have hbx : Below wr.heap.size wr x1 := by rw [← hx1]; exact (Below.refl _ _).alloc (Nat.le_refl _) _
      have HT1 := hide (HT.out.stayD hbx)
      have e0 : x1.cell? ⟨wr.heap.size, 0, none⟩ = some (.int .i64 x.kind) := by rw [cell_of_row _ _ _ _ _ _ hG]; rfl
      have hgl : wr.heap.size < x1.heap.size := (Array.getElem?_eq_some_iff.1 hG).1
      have HE4 : Hid (x1.cell? ⟨wr.heap.size, 4, none⟩ = some (.int .i64 x.page)) := by show _ = _; rw [cell_of_row _ _ _ _ _ _ hG]; rfl
      clear hx1 hG HT HRG1 hbx
      generalize wr.heap.size = g at *
      by_cases hch : x.changes = true
      · have hk23 : x.kind = 2 ∨ x.kind = 3 := by simpa [Ln.changes] using hch
        have HCH := hide hch
        clear hch
        rcases hk23 with hk2 | hk3
        · have hq2 : (x.kind != 2) = false := by simp [hk2]
          clear hk2
          go_wp2
          go_loopw [11, 12, 13] (fun hv fv jv wx => ∃ j : Nat, j ≤ dn ∧ hv = .bool (lastOf D x.page j).isSome ∧ fv = .int .i64 ((lastOf D x.page j).getD 0) ∧ jv = .int .i64 j ∧ Below x1.heap.size x1 wx) (fun _ _ i _ => dn - (iv i).toNat)
          case atStart => exact ⟨0, by omega, rfl, rfl, rfl, Below.refl _ _⟩
          case round =>
            obtain ⟨j, hj, rfl, rfl, rfl, hbj⟩ := hrel
            have HBJ := hide hbj
            obtain ⟨lf, hlf⟩ : ∃ lf, lastOf D x.page j = lf := ⟨_, rfl⟩
            rw [hlf]
            by_cases hjl : j < dn
            · obtain ⟨d, hd⟩ : ∃ d, D[j]? = some d := ⟨_, List.getElem?_eq_getElem (by rw [HDN.out]; exact hjl)⟩
              obtain ⟨_, _, bd, od, hda, hbdl, hdr⟩ := HD.out.2 j d hd
              have hbw := HT1.out.below.trans (hbj.mono HT1.out.below.size)
              have f0 : wr.cell? ⟨bd, od + j * 2, none⟩ = some (.int .i64 d.1) := (hbw.cell (p := ⟨bd, od + j * 2, none⟩) hbdl).trans (hdr 0 _ rfl)
              have f1 : wr.cell? ⟨bd, od + j * 2 + 1, none⟩ = some (.int .i64 d.2) := (hbw.cell (p := ⟨bd, od + j * 2 + 1, none⟩) hbdl).trans (hdr 1 _ rfl)
              have f4 : wr.cell? ⟨g, 4, none⟩ = some (.int .i64 x.page) := (hbj.cell (p := ⟨g, 4, none⟩) hgl).trans HE4.out
              have HLE := hide (lastOf_eq D x.page j d hd)
              rw [hlf] at HLE
              clear hbj hbw hdr hd hlf
              rw [hda]
              by_cases heq : d.1 = x.page
              · have hbq : (d.1 == x.page) = true := by simp [heq]
                rw [if_pos heq] at HLE
                clear heq
                go_wp2
                go_quiet (fail)
                go_wp2
                go_roundw
                case rel => exact ⟨j + 1, by omega, by rw [HLE.out]; rfl, by rw [HLE.out]; rfl, by go_num, HBJ.out.trans (below_drewN _ _ _)⟩
                case measure => simp [iv]; omega
              · have hbq : (d.1 == x.page) = false := beq_eq_false_iff_ne.2 heq
                rw [if_neg heq] at HLE
                clear heq
                go_wp2
                go_quiet (fail)
                go_wp2
                go_roundw
                case rel => exact ⟨j + 1, by omega, by rw [HLE.out], by rw [HLE.out], by go_num, HBJ.out.trans (below_drewN _ _ _)⟩
                case measure => simp [iv]; omega
            · obtain rfl : j = dn := by omega
              have HLF : Hid (lastOf D x.page D.length = lf) := by show _ = _; rw [HDN.out]; exact hlf
              clear hlf
              have HT2 := hide (HT1.out.stayD hbj)
              have flsn : wr.cell? ⟨b, o + k * 12, none⟩ = some (.int .i64 x.lsn) := HRG.out wr HT2.out.below 0 _ rfl
              clear hbj
              cases lf with
              | none =>
                have HR1 : Hid (ref1 D S x = S) := by show _ = _; unfold ref1; rw [if_neg (by rw [HLF.out]; simp)]
                simp only [Option.isSome_none, Option.getD_none]
                go_wp2
                go_roundw
                case rel =>
                  refine ⟨k + 1, by omega, by go_num, ?_⟩
                  rw [HTK.out, HR1.out]
                  have hq := HT2.out
                  rw [HM.out] at hq
                  exact hq
                case measure => simp [iv]; omega
              | some fst =>
                simp only [Option.isSome_some, Option.getD_some]
                by_cases hgt : fst > x.lsn
                · have hgd : decide (fst > x.lsn) = true := decide_eq_true hgt
                  have HR1 : Hid (ref1 D S x = S) := by show _ = _; unfold ref1; rw [if_neg (by rw [HLF.out]; simp; omega)]
                  go_wp2
                  go_roundw
                  case rel =>
                    refine ⟨k + 1, by omega, by go_num, ?_⟩
                    rw [HTK.out, HR1.out]
                    have hq := HT2.out
                    rw [HM.out] at hq
                    exact hq
                  case measure => simp [iv]; omega
                · have hgd : decide (fst > x.lsn) = false := decide_eq_false hgt
                  have HCOND : Hid (Goes D x) := ⟨HCH.out, by rw [HLF.out]; rfl, by rw [HLF.out]; exact hgt⟩
                  clear hgt
                  go_wp2
                  clear hgd flsn
                  go_loopw [14, 15] (fun av jv wx => ∃ i : Nat, i ≤ m ∧ av = .int .i64 (lastIdx S.1 x.page i) ∧ jv = .int .i64 i ∧ Below x1.heap.size x1 wx) (fun _ i _ => m - (iv i).toNat)
                  case atStart => exact ⟨0, by omega, rfl, rfl, HBJ.out⟩
                  case round =>
                    obtain ⟨i, hi, rfl, rfl, hbi⟩ := hrel
                    have HBI := hide hbi
                    obtain ⟨li, hli⟩ : ∃ li, lastIdx S.1 x.page i = li := ⟨_, rfl⟩
                    rw [hli]
                    by_cases him : i < m
                    · obtain ⟨d, hd⟩ : ∃ d, S.1[i]? = some d := ⟨_, List.getElem?_eq_getElem (by rw [HM.out]; exact him)⟩
                      have HTI := HT1.out.stayD hbi
                      obtain ⟨g7, c7'', cur7, hv7, _⟩ := own_some HTI.now (by rw [HM.out]; omega)
                      injection hv7 with q1 q2 q3
                      subst q1
                      have f4 : wr.cell? ⟨g, 4, none⟩ = some (.int .i64 x.page) := (hbi.cell (p := ⟨g, 4, none⟩) hgl).trans HE4.out
                      have f0 := (pg_cells HTI.now i d hd).1
                      have HLE := hide (lastIdx_eq S.1 x.page i d hd)
                      rw [hli] at HLE
                      clear hbi HTI hd hli q2 q3
                      by_cases heq : d.1 = x.page
                      · have hbq : (d.1 == x.page) = true := by simp [heq]
                        rw [if_pos heq] at HLE
                        clear heq
                        go_wp2
                        go_quiet (fail)
                        go_wp2
                        go_roundw
                        case rel => exact ⟨i + 1, by omega, by rw [HLE.out], by go_num, HBI.out.trans (below_drewN _ _ _)⟩
                        case measure => simp [iv]; omega
                      · have hbq : (d.1 == x.page) = false := beq_eq_false_iff_ne.2 heq
                        rw [if_neg heq] at HLE
                        clear heq
                        go_wp2
                        go_quiet (fail)
                        go_wp2
                        go_roundw
                        case rel => exact ⟨i + 1, by omega, by rw [HLE.out], by go_num, HBI.out.trans (below_drewN _ _ _)⟩
                        case measure => simp [iv]; omega
                    · obtain rfl : i = m := by omega
                      have HT3 := hide (HT1.out.stayD hbi)
                      have f4 : wr.cell? ⟨g, 4, none⟩ = some (.int .i64 x.page) := (hbi.cell (p := ⟨g, 4, none⟩) hgl).trans HE4.out
                      clear hbi
                      rcases lastIdx_cases S.1 x.page S.1.length (Nat.le_refl _) with ⟨h1, h2⟩ | ⟨at', d, h1, h2, h3, h4⟩
                      · rw [HM.out] at h1
                        rw [h1] at hli
                        subst hli
                        have HIX := hide h1
                        clear h1 h2
                        have hle0 : decide ((-1 : Int) < 0) = true := by simp
                        have HOWN : Hid ((wr.alloc (.cells (pgCells (x.page, 0)).toArray 52)).ownsRow 0 52 2 (.slice a7' i c7') i (pgRow S.1)) := by
                          have := HT3.out.now
                          rw [HM.out] at this
                          exact owns_of_block (owns_zero this) (fun q hq => Below.heap_alloc wr _ q (this.lt q hq).2)
                        have HSRC : Hid (∀ j u, (pgCells (x.page, 0))[j]? = some u → (wr.alloc (.cells (pgCells (x.page, 0)).toArray 52)).cell? ((⟨wr.heap.size, 0, none⟩ : Addr).add j) = some u) := src_of_block (heap_alloc_new wr _)
                        have HT3' : Hid (Two w wr (.slice a7' i c7') (.slice a8' S.2.length c8') S.1 S.2) := by
                          have hq := HT3.out
                          rw [HM.out] at hq
                          exact hq
                        have HRA := hide (ref1_abs D S x HCOND.out i HM.out HIX.out)
                        go_upto_region 27 with (refine wpList_append_owned (by rfl) _ _ 50 (by rfl) 52 (.agg (pgCells (0, 0)).toArray) 2 16 Try.underlying50 Try.info52 rfl (by omega) (.slice a7' i c7') i (pgRow S.1) (by rfl) HOWN.out ⟨wr.heap.size, 0, none⟩ 1 1 (pgCells (x.page, 0)) (by rfl) (by rfl) HSRC.out (by intro u hu; simp [pgCells] at hu; rcases hu with rfl | rfl <;> rfl) (by simp only [maxLen]; omega) (by omega) (fun v4 w4 r1 r2 r3 => ?_)
                                                have r1' : w4.ownsRow 0 52 2 v4 (S.1.length + 1) (pgRow S.1 ++ pgCells (x.page, 0)) := by rw [HM.out]; exact r1
                                                have hT4 := HT3'.out.addNow (x.page, 0) (((Off.refl [] wr).alloc _)) r1' r2 r3
                                                have HT4 := hide hT4
                                                clear r1 r2 r3 r1' hT4)
                        have hN4 : (S.1 ++ [(x.page, (0 : Int))]).length = i + 1 := by rw [List.length_append, HM.out]; rfl
                        obtain ⟨g4, c4, cur4, hv4, _⟩ := own_some HT4.out.now (by rw [hN4]; omega)
                        subst hv4
                        rw [hN4]
                        have hat : (S.1 ++ [(x.page, (0 : Int))])[i]? = some (x.page, 0) := by rw [← HM.out]; simp
                        have k1 := (pg_cells HT4.out.now i _ hat).2
                        have k0 : w4.cell? ⟨b, o + k * 12, none⟩ = some (.int .i64 x.lsn) := HRG.out w4 HT4.out.below 0 _ rfl
                        have HAT := hide hat
                        have HN4 := hide hN4
                        clear hat hN4 f4 HOWN HSRC hle0 HIX
                        by_cases hls : (0 : Int) < x.lsn
                        · have hld : decide ((0 : Int) < x.lsn) = true := decide_eq_true hls
                          have HR1 := hide HRA.out
                          rw [if_pos hls] at HR1
                          clear hls HRA
                          go_quiet (fail)
                          have hT5 := HT4.out.stayD (below_drewN _ _ nq)
                          generalize World.drewN w4 nq = w5 at *
                          have HT5 := hide hT5
                          have k5 : w5.cell? ⟨b, o + k * 12, none⟩ = some (.int .i64 x.lsn) := HRG.out w5 hT5.below 0 _ rfl
                          have HOWN8 : Hid ((w5.alloc (.cells #[.int .i64 x.lsn] 3)).ownsRow 0 3 1 (.slice a8' S.2.length c8') S.2.length (intCells S.2)) := owns_of_block (owns_zero hT5.out) (fun q hq => Below.heap_alloc w5 _ q (hT5.out.lt q hq).2)
                          have HSRC8 : Hid (∀ j u, [Value.int .i64 x.lsn][j]? = some u → (w5.alloc (.cells #[.int .i64 x.lsn] 3)).cell? ((⟨w5.heap.size, 0, none⟩ : Addr).add j) = some u) := src_of_block (X := [Value.int .i64 x.lsn]) (heap_alloc_new w5 _)
                          clear hT5
                          go_upto_region 29 with (refine wpList_append_owned (by rfl) _ _ 49 (by rfl) 3 (.int .i64 0) 1 8 Try.underlying49 Try.info3 rfl (by omega) (.slice a8' S.2.length c8') S.2.length (intCells S.2) (by rfl) HOWN8.out ⟨w5.heap.size, 0, none⟩ 1 1 [.int .i64 x.lsn] (by rfl) (by rfl) HSRC8.out (by intro u hu; simp at hu; subst hu; rfl) (by simp only [maxLen]; omega) (by omega) (fun v6 w6 r1 r2 r3 => ?_)
                                                  have hT6 := HT5.out.addOut x.lsn ((Off.refl [] w5).alloc _) r1 r2 r3
                                                  obtain ⟨a6, c6, hv6⟩ := own_len hT6.out
                                                  subst hv6
                                                  have HT6 := hide hT6
                                                  clear r1 r2 r3 hT6)
                          have k6 : w6.cell? ⟨b, o + k * 12, none⟩ = some (.int .i64 x.lsn) := HRG.out w6 HT6.out.below 0 _ rfl
                          have k61 := (pg_cells HT6.out.now i _ HAT.out).2
                          obtain ⟨hT7, k6f⟩ := HT6.out.setNow i _ HAT.out x.lsn
                          have HT7 := hide hT7
                          clear hT7 HOWN8 HSRC8 k5
                          go_wp2
                          go_roundw
                          case rel =>
                            refine ⟨k + 1, by omega, by go_num, ?_⟩
                            rw [HTK.out, HR1.out]
                            have hq := HT7.out
                            rw [HN4.out] at hq
                            rw [List.length_append] at hq
                            exact hq
                          case measure => simp [iv]; omega
                        · have hld : decide ((0 : Int) < x.lsn) = false := decide_eq_false hls
                          have HR1 := hide HRA.out
                          rw [if_neg hls] at HR1
                          clear hls HRA
                          go_quiet (fail)
                          have HT5 := hide (HT4.out.stayD (below_drewN _ _ nq))
                          go_wp2
                          go_roundw
                          case rel =>
                            refine ⟨k + 1, by omega, by go_num, ?_⟩
                            rw [HTK.out, HR1.out]
                            have hq := HT5.out
                            rw [HN4.out] at hq
                            exact hq
                          case measure => simp [iv]; omega
                      · rw [HM.out] at h4
                        rw [h4] at hli
                        subst hli
                        have HIX := hide h4
                        have HD2 := hide (And.intro h2 h3)
                        have h1 : at' < i := by rw [HM.out] at h1; exact h1
                        have hge0 : decide ((at' : Int) < 0) = false := by simp
                        clear h4 h2 h3 f4
                        have HRA := hide (ref1_pre D S x HCOND.out i HM.out at' d HIX.out HD2.out.1)
                        obtain ⟨g4, c4, cur4, hv4, _⟩ := own_some HT3.out.now (by rw [HM.out]; omega)
                        injection hv4 with q1 q2 q3
                        subst q1
                        clear q2 q3
                        have k1 := (pg_cells HT3.out.now at' _ HD2.out.1).2
                        have k0 : wr.cell? ⟨b, o + k * 12, none⟩ = some (.int .i64 x.lsn) := HRG.out wr HT3.out.below 0 _ rfl
                        have HAT := hide HD2.out.1
                        have hat1 : (at' : Int) < (i : Int) := by omega
                        by_cases hls : d.2 < x.lsn
                        · have hld : decide (d.2 < x.lsn) = true := decide_eq_true hls
                          have HR1 := hide HRA.out
                          rw [if_pos hls] at HR1
                          clear hls HRA
                          go_upto_region 27 with fail
                          go_quiet (fail)
                          have hT5 := HT3.out.stayD (below_drewN _ _ nq)
                          generalize World.drewN wr nq = w5 at *
                          have HT5 := hide hT5
                          have k5 : w5.cell? ⟨b, o + k * 12, none⟩ = some (.int .i64 x.lsn) := HRG.out w5 hT5.below 0 _ rfl
                          have HOWN8 : Hid ((w5.alloc (.cells #[.int .i64 x.lsn] 3)).ownsRow 0 3 1 (.slice a8' S.2.length c8') S.2.length (intCells S.2)) := owns_of_block (owns_zero hT5.out) (fun q hq => Below.heap_alloc w5 _ q (hT5.out.lt q hq).2)
                          have HSRC8 : Hid (∀ j u, [Value.int .i64 x.lsn][j]? = some u → (w5.alloc (.cells #[.int .i64 x.lsn] 3)).cell? ((⟨w5.heap.size, 0, none⟩ : Addr).add j) = some u) := src_of_block (X := [Value.int .i64 x.lsn]) (heap_alloc_new w5 _)
                          clear hT5
                          go_upto_region 29 with (refine wpList_append_owned (by rfl) _ _ 49 (by rfl) 3 (.int .i64 0) 1 8 Try.underlying49 Try.info3 rfl (by omega) (.slice a8' S.2.length c8') S.2.length (intCells S.2) (by rfl) HOWN8.out ⟨w5.heap.size, 0, none⟩ 1 1 [.int .i64 x.lsn] (by rfl) (by rfl) HSRC8.out (by intro u hu; simp at hu; subst hu; rfl) (by simp only [maxLen]; omega) (by omega) (fun v6 w6 r1 r2 r3 => ?_)
                                                  have hT6 := HT5.out.addOut x.lsn ((Off.refl [] w5).alloc _) r1 r2 r3
                                                  obtain ⟨a6, c6, hv6⟩ := own_len hT6.out
                                                  subst hv6
                                                  have HT6 := hide hT6
                                                  clear r1 r2 r3 hT6)
                          have k6 : w6.cell? ⟨b, o + k * 12, none⟩ = some (.int .i64 x.lsn) := HRG.out w6 HT6.out.below 0 _ rfl
                          have k61 := (pg_cells HT6.out.now at' _ HAT.out).2
                          obtain ⟨hT7, k6f⟩ := HT6.out.setNow at' _ HAT.out x.lsn
                          have HT7 := hide hT7
                          clear hT7 HOWN8 HSRC8 k5
                          go_wp2
                          go_roundw
                          case rel =>
                            refine ⟨k + 1, by omega, by go_num, ?_⟩
                            rw [HTK.out, HR1.out]
                            have hq := HT7.out
                            rw [HM.out] at hq
                            rw [List.length_append] at hq
                            exact hq
                          case measure => simp [iv]; omega
                        · have hld : decide (d.2 < x.lsn) = false := decide_eq_false hls
                          have HR1 := hide HRA.out
                          rw [if_neg hls] at HR1
                          clear hls HRA
                          go_upto_region 27 with fail
                          go_quiet (fail)
                          have HT5 := hide (HT3.out.stayD (below_drewN _ _ nq))
                          go_wp2
                          go_roundw
                          case rel =>
                            refine ⟨k + 1, by omega, by go_num, ?_⟩
                            rw [HTK.out, HR1.out]
                            have hq := HT5.out
                            rw [HM.out] at hq
                            exact hq
                          case measure => simp [iv]; omega
        · have hq2 : (x.kind != 2) = true := by simp [hk3]
          have hq3 : (x.kind != 3) = false := by simp [hk3]
          clear hk3
          go_wp2
          go_loopw [11, 12, 13] (fun hv fv jv wx => ∃ j : Nat, j ≤ dn ∧ hv = .bool (lastOf D x.page j).isSome ∧ fv = .int .i64 ((lastOf D x.page j).getD 0) ∧ jv = .int .i64 j ∧ Below x1.heap.size x1 wx) (fun _ _ i _ => dn - (iv i).toNat)
          case atStart => exact ⟨0, by omega, rfl, rfl, rfl, Below.refl _ _⟩
          case round =>
            obtain ⟨j, hj, rfl, rfl, rfl, hbj⟩ := hrel
            have HBJ := hide hbj
            obtain ⟨lf, hlf⟩ : ∃ lf, lastOf D x.page j = lf := ⟨_, rfl⟩
            rw [hlf]
            by_cases hjl : j < dn
            · obtain ⟨d, hd⟩ : ∃ d, D[j]? = some d := ⟨_, List.getElem?_eq_getElem (by rw [HDN.out]; exact hjl)⟩
              obtain ⟨_, _, bd, od, hda, hbdl, hdr⟩ := HD.out.2 j d hd
              have hbw := HT1.out.below.trans (hbj.mono HT1.out.below.size)
              have f0 : wr.cell? ⟨bd, od + j * 2, none⟩ = some (.int .i64 d.1) := (hbw.cell (p := ⟨bd, od + j * 2, none⟩) hbdl).trans (hdr 0 _ rfl)
              have f1 : wr.cell? ⟨bd, od + j * 2 + 1, none⟩ = some (.int .i64 d.2) := (hbw.cell (p := ⟨bd, od + j * 2 + 1, none⟩) hbdl).trans (hdr 1 _ rfl)
              have f4 : wr.cell? ⟨g, 4, none⟩ = some (.int .i64 x.page) := (hbj.cell (p := ⟨g, 4, none⟩) hgl).trans HE4.out
              have HLE := hide (lastOf_eq D x.page j d hd)
              rw [hlf] at HLE
              clear hbj hbw hdr hd hlf
              rw [hda]
              by_cases heq : d.1 = x.page
              · have hbq : (d.1 == x.page) = true := by simp [heq]
                rw [if_pos heq] at HLE
                clear heq
                go_wp2
                go_quiet (fail)
                go_wp2
                go_roundw
                case rel => exact ⟨j + 1, by omega, by rw [HLE.out]; rfl, by rw [HLE.out]; rfl, by go_num, HBJ.out.trans (below_drewN _ _ _)⟩
                case measure => simp [iv]; omega
              · have hbq : (d.1 == x.page) = false := beq_eq_false_iff_ne.2 heq
                rw [if_neg heq] at HLE
                clear heq
                go_wp2
                go_quiet (fail)
                go_wp2
                go_roundw
                case rel => exact ⟨j + 1, by omega, by rw [HLE.out], by rw [HLE.out], by go_num, HBJ.out.trans (below_drewN _ _ _)⟩
                case measure => simp [iv]; omega
            · obtain rfl : j = dn := by omega
              have HLF : Hid (lastOf D x.page D.length = lf) := by show _ = _; rw [HDN.out]; exact hlf
              clear hlf
              have HT2 := hide (HT1.out.stayD hbj)
              have flsn : wr.cell? ⟨b, o + k * 12, none⟩ = some (.int .i64 x.lsn) := HRG.out wr HT2.out.below 0 _ rfl
              clear hbj
              cases lf with
              | none =>
                have HR1 : Hid (ref1 D S x = S) := by show _ = _; unfold ref1; rw [if_neg (by rw [HLF.out]; simp)]
                simp only [Option.isSome_none, Option.getD_none]
                go_wp2
                go_roundw
                case rel =>
                  refine ⟨k + 1, by omega, by go_num, ?_⟩
                  rw [HTK.out, HR1.out]
                  have hq := HT2.out
                  rw [HM.out] at hq
                  exact hq
                case measure => simp [iv]; omega
              | some fst =>
                simp only [Option.isSome_some, Option.getD_some]
                by_cases hgt : fst > x.lsn
                · have hgd : decide (fst > x.lsn) = true := decide_eq_true hgt
                  have HR1 : Hid (ref1 D S x = S) := by show _ = _; unfold ref1; rw [if_neg (by rw [HLF.out]; simp; omega)]
                  go_wp2
                  go_roundw
                  case rel =>
                    refine ⟨k + 1, by omega, by go_num, ?_⟩
                    rw [HTK.out, HR1.out]
                    have hq := HT2.out
                    rw [HM.out] at hq
                    exact hq
                  case measure => simp [iv]; omega
                · have hgd : decide (fst > x.lsn) = false := decide_eq_false hgt
                  have HCOND : Hid (Goes D x) := ⟨HCH.out, by rw [HLF.out]; rfl, by rw [HLF.out]; exact hgt⟩
                  clear hgt
                  go_wp2
                  clear hgd flsn
                  go_loopw [14, 15] (fun av jv wx => ∃ i : Nat, i ≤ m ∧ av = .int .i64 (lastIdx S.1 x.page i) ∧ jv = .int .i64 i ∧ Below x1.heap.size x1 wx) (fun _ i _ => m - (iv i).toNat)
                  case atStart => exact ⟨0, by omega, rfl, rfl, HBJ.out⟩
                  case round =>
                    obtain ⟨i, hi, rfl, rfl, hbi⟩ := hrel
                    have HBI := hide hbi
                    obtain ⟨li, hli⟩ : ∃ li, lastIdx S.1 x.page i = li := ⟨_, rfl⟩
                    rw [hli]
                    by_cases him : i < m
                    · obtain ⟨d, hd⟩ : ∃ d, S.1[i]? = some d := ⟨_, List.getElem?_eq_getElem (by rw [HM.out]; exact him)⟩
                      have HTI := HT1.out.stayD hbi
                      obtain ⟨g7, c7'', cur7, hv7, _⟩ := own_some HTI.now (by rw [HM.out]; omega)
                      injection hv7 with q1 q2 q3
                      subst q1
                      have f4 : wr.cell? ⟨g, 4, none⟩ = some (.int .i64 x.page) := (hbi.cell (p := ⟨g, 4, none⟩) hgl).trans HE4.out
                      have f0 := (pg_cells HTI.now i d hd).1
                      have HLE := hide (lastIdx_eq S.1 x.page i d hd)
                      rw [hli] at HLE
                      clear hbi HTI hd hli q2 q3
                      by_cases heq : d.1 = x.page
                      · have hbq : (d.1 == x.page) = true := by simp [heq]
                        rw [if_pos heq] at HLE
                        clear heq
                        go_wp2
                        go_quiet (fail)
                        go_wp2
                        go_roundw
                        case rel => exact ⟨i + 1, by omega, by rw [HLE.out], by go_num, HBI.out.trans (below_drewN _ _ _)⟩
                        case measure => simp [iv]; omega
                      · have hbq : (d.1 == x.page) = false := beq_eq_false_iff_ne.2 heq
                        rw [if_neg heq] at HLE
                        clear heq
                        go_wp2
                        go_quiet (fail)
                        go_wp2
                        go_roundw
                        case rel => exact ⟨i + 1, by omega, by rw [HLE.out], by go_num, HBI.out.trans (below_drewN _ _ _)⟩
                        case measure => simp [iv]; omega
                    · obtain rfl : i = m := by omega
                      have HT3 := hide (HT1.out.stayD hbi)
                      have f4 : wr.cell? ⟨g, 4, none⟩ = some (.int .i64 x.page) := (hbi.cell (p := ⟨g, 4, none⟩) hgl).trans HE4.out
                      clear hbi
                      rcases lastIdx_cases S.1 x.page S.1.length (Nat.le_refl _) with ⟨h1, h2⟩ | ⟨at', d, h1, h2, h3, h4⟩
                      · rw [HM.out] at h1
                        rw [h1] at hli
                        subst hli
                        have HIX := hide h1
                        clear h1 h2
                        have hle0 : decide ((-1 : Int) < 0) = true := by simp
                        have HOWN : Hid ((wr.alloc (.cells (pgCells (x.page, 0)).toArray 52)).ownsRow 0 52 2 (.slice a7' i c7') i (pgRow S.1)) := by
                          have := HT3.out.now
                          rw [HM.out] at this
                          exact owns_of_block (owns_zero this) (fun q hq => Below.heap_alloc wr _ q (this.lt q hq).2)
                        have HSRC : Hid (∀ j u, (pgCells (x.page, 0))[j]? = some u → (wr.alloc (.cells (pgCells (x.page, 0)).toArray 52)).cell? ((⟨wr.heap.size, 0, none⟩ : Addr).add j) = some u) := src_of_block (heap_alloc_new wr _)
                        have HT3' : Hid (Two w wr (.slice a7' i c7') (.slice a8' S.2.length c8') S.1 S.2) := by
                          have hq := HT3.out
                          rw [HM.out] at hq
                          exact hq
                        have HRA := hide (ref1_abs D S x HCOND.out i HM.out HIX.out)
                        go_upto_region 27 with (refine wpList_append_owned (by rfl) _ _ 50 (by rfl) 52 (.agg (pgCells (0, 0)).toArray) 2 16 Try.underlying50 Try.info52 rfl (by omega) (.slice a7' i c7') i (pgRow S.1) (by rfl) HOWN.out ⟨wr.heap.size, 0, none⟩ 1 1 (pgCells (x.page, 0)) (by rfl) (by rfl) HSRC.out (by intro u hu; simp [pgCells] at hu; rcases hu with rfl | rfl <;> rfl) (by simp only [maxLen]; omega) (by omega) (fun v4 w4 r1 r2 r3 => ?_)
                                                have r1' : w4.ownsRow 0 52 2 v4 (S.1.length + 1) (pgRow S.1 ++ pgCells (x.page, 0)) := by rw [HM.out]; exact r1
                                                have hT4 := HT3'.out.addNow (x.page, 0) (((Off.refl [] wr).alloc _)) r1' r2 r3
                                                have HT4 := hide hT4
                                                clear r1 r2 r3 r1' hT4)
                        have hN4 : (S.1 ++ [(x.page, (0 : Int))]).length = i + 1 := by rw [List.length_append, HM.out]; rfl
                        obtain ⟨g4, c4, cur4, hv4, _⟩ := own_some HT4.out.now (by rw [hN4]; omega)
                        subst hv4
                        rw [hN4]
                        have hat : (S.1 ++ [(x.page, (0 : Int))])[i]? = some (x.page, 0) := by rw [← HM.out]; simp
                        have k1 := (pg_cells HT4.out.now i _ hat).2
                        have k0 : w4.cell? ⟨b, o + k * 12, none⟩ = some (.int .i64 x.lsn) := HRG.out w4 HT4.out.below 0 _ rfl
                        have HAT := hide hat
                        have HN4 := hide hN4
                        clear hat hN4 f4 HOWN HSRC hle0 HIX
                        by_cases hls : (0 : Int) < x.lsn
                        · have hld : decide ((0 : Int) < x.lsn) = true := decide_eq_true hls
                          have HR1 := hide HRA.out
                          rw [if_pos hls] at HR1
                          clear hls HRA
                          go_quiet (fail)
                          have hT5 := HT4.out.stayD (below_drewN _ _ nq)
                          generalize World.drewN w4 nq = w5 at *
                          have HT5 := hide hT5
                          have k5 : w5.cell? ⟨b, o + k * 12, none⟩ = some (.int .i64 x.lsn) := HRG.out w5 hT5.below 0 _ rfl
                          have HOWN8 : Hid ((w5.alloc (.cells #[.int .i64 x.lsn] 3)).ownsRow 0 3 1 (.slice a8' S.2.length c8') S.2.length (intCells S.2)) := owns_of_block (owns_zero hT5.out) (fun q hq => Below.heap_alloc w5 _ q (hT5.out.lt q hq).2)
                          have HSRC8 : Hid (∀ j u, [Value.int .i64 x.lsn][j]? = some u → (w5.alloc (.cells #[.int .i64 x.lsn] 3)).cell? ((⟨w5.heap.size, 0, none⟩ : Addr).add j) = some u) := src_of_block (X := [Value.int .i64 x.lsn]) (heap_alloc_new w5 _)
                          clear hT5
                          go_upto_region 29 with (refine wpList_append_owned (by rfl) _ _ 49 (by rfl) 3 (.int .i64 0) 1 8 Try.underlying49 Try.info3 rfl (by omega) (.slice a8' S.2.length c8') S.2.length (intCells S.2) (by rfl) HOWN8.out ⟨w5.heap.size, 0, none⟩ 1 1 [.int .i64 x.lsn] (by rfl) (by rfl) HSRC8.out (by intro u hu; simp at hu; subst hu; rfl) (by simp only [maxLen]; omega) (by omega) (fun v6 w6 r1 r2 r3 => ?_)
                                                  have hT6 := HT5.out.addOut x.lsn ((Off.refl [] w5).alloc _) r1 r2 r3
                                                  obtain ⟨a6, c6, hv6⟩ := own_len hT6.out
                                                  subst hv6
                                                  have HT6 := hide hT6
                                                  clear r1 r2 r3 hT6)
                          have k6 : w6.cell? ⟨b, o + k * 12, none⟩ = some (.int .i64 x.lsn) := HRG.out w6 HT6.out.below 0 _ rfl
                          have k61 := (pg_cells HT6.out.now i _ HAT.out).2
                          obtain ⟨hT7, k6f⟩ := HT6.out.setNow i _ HAT.out x.lsn
                          have HT7 := hide hT7
                          clear hT7 HOWN8 HSRC8 k5
                          go_wp2
                          go_roundw
                          case rel =>
                            refine ⟨k + 1, by omega, by go_num, ?_⟩
                            rw [HTK.out, HR1.out]
                            have hq := HT7.out
                            rw [HN4.out] at hq
                            rw [List.length_append] at hq
                            exact hq
                          case measure => simp [iv]; omega
                        · have hld : decide ((0 : Int) < x.lsn) = false := decide_eq_false hls
                          have HR1 := hide HRA.out
                          rw [if_neg hls] at HR1
                          clear hls HRA
                          go_quiet (fail)
                          have HT5 := hide (HT4.out.stayD (below_drewN _ _ nq))
                          go_wp2
                          go_roundw
                          case rel =>
                            refine ⟨k + 1, by omega, by go_num, ?_⟩
                            rw [HTK.out, HR1.out]
                            have hq := HT5.out
                            rw [HN4.out] at hq
                            exact hq
                          case measure => simp [iv]; omega
                      · rw [HM.out] at h4
                        rw [h4] at hli
                        subst hli
                        have HIX := hide h4
                        have HD2 := hide (And.intro h2 h3)
                        have h1 : at' < i := by rw [HM.out] at h1; exact h1
                        have hge0 : decide ((at' : Int) < 0) = false := by simp
                        clear h4 h2 h3 f4
                        have HRA := hide (ref1_pre D S x HCOND.out i HM.out at' d HIX.out HD2.out.1)
                        obtain ⟨g4, c4, cur4, hv4, _⟩ := own_some HT3.out.now (by rw [HM.out]; omega)
                        injection hv4 with q1 q2 q3
                        subst q1
                        clear q2 q3
                        have k1 := (pg_cells HT3.out.now at' _ HD2.out.1).2
                        have k0 : wr.cell? ⟨b, o + k * 12, none⟩ = some (.int .i64 x.lsn) := HRG.out wr HT3.out.below 0 _ rfl
                        have HAT := hide HD2.out.1
                        have hat1 : (at' : Int) < (i : Int) := by omega
                        by_cases hls : d.2 < x.lsn
                        · have hld : decide (d.2 < x.lsn) = true := decide_eq_true hls
                          have HR1 := hide HRA.out
                          rw [if_pos hls] at HR1
                          clear hls HRA
                          go_upto_region 27 with fail
                          go_quiet (fail)
                          have hT5 := HT3.out.stayD (below_drewN _ _ nq)
                          generalize World.drewN wr nq = w5 at *
                          have HT5 := hide hT5
                          have k5 : w5.cell? ⟨b, o + k * 12, none⟩ = some (.int .i64 x.lsn) := HRG.out w5 hT5.below 0 _ rfl
                          have HOWN8 : Hid ((w5.alloc (.cells #[.int .i64 x.lsn] 3)).ownsRow 0 3 1 (.slice a8' S.2.length c8') S.2.length (intCells S.2)) := owns_of_block (owns_zero hT5.out) (fun q hq => Below.heap_alloc w5 _ q (hT5.out.lt q hq).2)
                          have HSRC8 : Hid (∀ j u, [Value.int .i64 x.lsn][j]? = some u → (w5.alloc (.cells #[.int .i64 x.lsn] 3)).cell? ((⟨w5.heap.size, 0, none⟩ : Addr).add j) = some u) := src_of_block (X := [Value.int .i64 x.lsn]) (heap_alloc_new w5 _)
                          clear hT5
                          go_upto_region 29 with (refine wpList_append_owned (by rfl) _ _ 49 (by rfl) 3 (.int .i64 0) 1 8 Try.underlying49 Try.info3 rfl (by omega) (.slice a8' S.2.length c8') S.2.length (intCells S.2) (by rfl) HOWN8.out ⟨w5.heap.size, 0, none⟩ 1 1 [.int .i64 x.lsn] (by rfl) (by rfl) HSRC8.out (by intro u hu; simp at hu; subst hu; rfl) (by simp only [maxLen]; omega) (by omega) (fun v6 w6 r1 r2 r3 => ?_)
                                                  have hT6 := HT5.out.addOut x.lsn ((Off.refl [] w5).alloc _) r1 r2 r3
                                                  obtain ⟨a6, c6, hv6⟩ := own_len hT6.out
                                                  subst hv6
                                                  have HT6 := hide hT6
                                                  clear r1 r2 r3 hT6)
                          have k6 : w6.cell? ⟨b, o + k * 12, none⟩ = some (.int .i64 x.lsn) := HRG.out w6 HT6.out.below 0 _ rfl
                          have k61 := (pg_cells HT6.out.now at' _ HAT.out).2
                          obtain ⟨hT7, k6f⟩ := HT6.out.setNow at' _ HAT.out x.lsn
                          have HT7 := hide hT7
                          clear hT7 HOWN8 HSRC8 k5
                          go_wp2
                          go_roundw
                          case rel =>
                            refine ⟨k + 1, by omega, by go_num, ?_⟩
                            rw [HTK.out, HR1.out]
                            have hq := HT7.out
                            rw [HM.out] at hq
                            rw [List.length_append] at hq
                            exact hq
                          case measure => simp [iv]; omega
                        · have hld : decide (d.2 < x.lsn) = false := decide_eq_false hls
                          have HR1 := hide HRA.out
                          rw [if_neg hls] at HR1
                          clear hls HRA
                          go_upto_region 27 with fail
                          go_quiet (fail)
                          have HT5 := hide (HT3.out.stayD (below_drewN _ _ nq))
                          go_wp2
                          go_roundw
                          case rel =>
                            refine ⟨k + 1, by omega, by go_num, ?_⟩
                            rw [HTK.out, HR1.out]
                            have hq := HT5.out
                            rw [HM.out] at hq
                            exact hq
                          case measure => simp [iv]; omega
      · have hk23 : x.kind ≠ 2 ∧ x.kind ≠ 3 := by simpa [Ln.changes] using hch
        have hq2 : (x.kind != 2) = true := by simp [hk23.1]
        have hq3 : (x.kind != 3) = true := by simp [hk23.2]
        have HR1 : Hid (ref1 D S x = S) := by show _ = _; unfold ref1; rw [if_neg (fun h => hch h.1)]
        clear hk23 hch
        go_wp2
        go_roundw
        case rel =>
          refine ⟨k + 1, by omega, by go_num, ?_⟩
          rw [HTK.out, HR1.out]
          have hq := HT1.out
          rw [HM.out] at hq
          exact hq
        case measure => simp [iv]; omega
    · obtain rfl : k = n := by omega
      have e : L.take k = L := List.take_of_length_le (by rw [HN.out]; omega)
      rw [e] at hT
      clear e
      obtain ⟨a8', c8', hv8⟩ := own_len hT.out
      subst hv8
      have HT := hide hT
      clear hT
      go_wp2
      go_ret
      exact ⟨_, rfl, HT.out.out, HT.out.below⟩
end Go.Proofs.Ytpjppolbkdnkaaa
