/- A part of it: RKeep RPut. -/
import Derived.Test.YteeembildppgmaaGreatM6
namespace Go.Proofs.YteeembildppgmaaGreat
open Go.RowKit
set_option linter.unusedVariables false
set_option linter.unusedSimpArgs false
theorem drop_cells (X : List UInt8) (g k n : Nat) (t : TypeId) (fr : Nat × Nat) (w : World) (h : w.heap[g]? = some (.cells (secCells X).toArray t fr)) :
 ∀ j v, (secCells ((X.drop k).take n))[j]? = some v → w.cell? ((⟨g, k, none⟩ : Addr).add j) = some v := fun j v hv => by
 rw [Addr.add_mid, cell_of_row _ _ _ _ _ _ h]
 have he : secCells ((X.drop k).take n) = ((secCells X).drop k).take n := by simp [secCells]
 rw [he, List.getElem?_take] at hv
 split at hv
 · rw [List.getElem?_drop] at hv
   simpa using hv
 · simp at hv

set_option maxHeartbeats 1000000 in
set_option maxRecDepth 100000 in
theorem keep_ok {w : World} {q p : Nat} {gp fp : List Nat} {R : Rg} {D : Dv} (s b n : Nat) (bs : List UInt8) (h : RgAt w q p gp R) (hD : DevC w p fp D) (hdis : ∀ k ∈ gp, k ∉ fp) (live : D.dead = false) (hpl : R.place s < D.L.length) (hm : D.W.length < 1000000)
 (hs : s < 4611686018427387904) (hb : w.heap[b]? = some (.cells (secCells bs).toArray 5 (0, 0))) (hl : bs.length = 128) (hbf : b ∉ fp) (hn : n ≤ 118) :
 Calls Tryz.prog 151 #[.pointer (some ⟨q, 0, none⟩), .int .i64 (s : Int), .slice (some ⟨b, 10, none⟩) n 118] w fun e w' => e = .returned (.int .i64 0) ∧ DevC w' p fp D ∧
  w'.heap[b]? = some (.cells (secCells (if beval ((D.newest (R.place s)).take 8) = s + 1 then bs.take 10 ++ (((D.newest (R.place s)).drop 10).take n ++ bs.drop (10 + n)) else bs)).toArray 5 (0, 0)) ∧ Off (b :: fp) w w' := by
 have HP := hide (fun m => rplace_any s hs (h.drewN m))
 have HRD := hide (fun m => read_c (R.place s) (hD.drewN m) live hpl hm)
 have hX := length_newest D hD.wf (R.place s) hpl
 obtain ⟨hv, h⟩ := h
 have k0 := h.c0
 have HK0 : Hid (∀ w', Off fp w w' → w'.cell? ⟨q, 0, none⟩ = some (.pointer (some ⟨p, 0, none⟩))) := fun w' ho => (h.apart ho hdis).c0
 have hblt : b < w.heap.size := (Array.getElem?_eq_some_iff.1 hb).1
 have HBB : Hid (∀ w', Off fp w w' → w'.heap[b]? = some (.cells (secCells bs).toArray 5 (0, 0))) := fun w' ho => (ho.block b hblt hbf).trans hb
 clear h hdis live hm hD hb
 obtain ⟨X, hXe⟩ : ∃ X, D.newest (R.place s) = X := ⟨_, rfl⟩
 rw [hXe] at hX HRD ⊢
 clear hXe
 have HX := hide hX
 have HL := hide hl
 obtain ⟨Y, hY⟩ : ∃ Y, (if beval (X.take 8) = s + 1 then bs.take 10 ++ ((X.drop 10).take n ++ bs.drop (10 + n)) else bs) = Y := ⟨_, rfl⟩
 rw [hY]
 have HY := hide hY
 clear hX hl hY
 go_enter Tryz.func151, Tryz.ntmps151
 go_wp2
 go_region_held (fun w' => w'.cell? ⟨q, 0, none⟩ = some (.pointer (some ⟨p, 0, none⟩))) (simp [*])
  (first
    | (go_at_call 131; refine (HP.out 1).mono ?_; rintro e w1 ⟨rfl, m1, rfl⟩)
    | (go_at_call 18; refine (HRD.out _).mono ?_; rintro e w2 ⟨g, rfl, hg1, hg2, hD2, hO2⟩; have k02 := HK0.out w2 ⟨hO2.os, hO2.tape, hO2.output, hO2.size, hO2.block⟩))
 have hO : Off fp w w2 := ⟨hO2.os, hO2.tape, hO2.output, hO2.size, hO2.block⟩
 have HB2 := hide (HBB.out w2 hO)
 have HO := hide (hO.mono (fun k hk => List.mem_cons_of_mem b hk))
 have HN := hide (rnumber_any g 128 X 5 (0, 0) w2 hg2 HX.out (by omega))
 have HD2 := hide hD2
 have HG := hide hg2
 have hgw : w.heap.size ≤ g := hg1
 clear k02 hO2 hg2 hD2 hg1 hO HP HRD HK0 HBB k0
 by_cases hnum : beval (X.take 8) = s + 1
 · have hz : (((beval (X.take 8) : Nat) : Int) == ((s : Int) + 1)) = true := by rw [hnum]; simp
   have HYY : Hid (bs.take 10 ++ ((X.drop 10).take n ++ bs.drop (10 + n)) = Y) := by have := HY.out; rw [if_pos hnum] at this; exact this
   clear hnum HY
   have HC1 : Hid ((secCells ((X.drop 10).take n)).length = Nat.min 118 n) := by
    show _ = _
    rw [length_secCells, List.length_take, List.length_drop, HX.out]
    show min n 118 = min 118 n
    omega
   have HC2 := hide (drop_cells X g 10 n 5 (0, 0) w2 HG.out)
   have HC3 : Hid (10 + (secCells ((X.drop 10).take n)).length ≤ (secCells bs).toArray.size) := by
    show _ ≤ _
    rw [length_secCells, List.length_take, List.length_drop, List.size_toArray, length_secCells, HL.out]
    omega
   go_wp2_with (first
    | (go_at_call 153; refine HN.out.mono ?_; rintro e w' ⟨rfl, hw⟩; have hw := hw.symm; subst hw)
    | (refine wpList_copy_own rfl (.tmp 29) (.tmp 31) 36 36 rfl 5 Tryz.underlying36 Tryz.size5 b 10 n 118 ⟨g, 10, none⟩ 118 118 rfl rfl (secCells bs).toArray 5 HB2.out (secCells ((X.drop 10).take n)) HC1.out HC2.out HC3.out (one_secCells _) ?_))
   go_ret
   refine ⟨rfl, ?_, ?_, ?_⟩
   · exact HD2.out.apart (fq := [b]) ((Off.refl [b] w2).setRow b _ (.inl (by simp))) (fun k hk hm => hbf (by simp at hm; rw [← hm]; exact hk))
   · rw [setRow_heap w2 b _ _ 5 _ HB2.out, ← HYY.out]
     congr 2
     have hlen : ((X.drop 10).take n).length = n := by rw [List.length_take, List.length_drop, HX.out]; omega
     simp only [secCells_append]
     rw [length_secCells, hlen]
     simp [secCells]
   · exact HO.out.setRow b _ (.inl (by simp))
 · have hz : (((beval (X.take 8) : Nat) : Int) == ((s : Int) + 1)) = false := by simp; omega
   have HYY : Hid (bs = Y) := by have := HY.out; rw [if_neg hnum] at this; exact this
   clear hnum HY
   go_wp2_with (first
    | (go_at_call 153; refine HN.out.mono ?_; rintro e w' ⟨rfl, hw⟩; have hw := hw.symm; subst hw))
   go_ret
   exact ⟨rfl, HD2.out, by rw [← HYY.out]; exact HB2.out, HO.out⟩
end Go.Proofs.YteeembildppgmaaGreat
namespace Go.Proofs.YteeembildppgmaaGreat
open Go.RowKit
set_option linter.unusedVariables false
set_option linter.unusedSimpArgs false
theorem wpList_min {P : Program} {ops : Array Oper} {rest : List Oper} {o : Oper} {a : Act} {w : World} {Q : Exit → Act → World → Prop} (hg : o.guard = none) (x y : Operand) (ts : Array TypeId)
 (hop : o.op = Op.call { callee := Callee.builtin Builtin.min, args := #[x, y], argTypes := ts }) (i j k : Int) (hx : a.eval x = .int .i64 i) (hy : a.eval y = .int .i64 j) (hk : (if j < i then j else i) = k)
 (h : wpList P ops Q rest (a.put o.dst (.int .i64 k)) w) : wpList P ops Q (o :: rest) a w := by
 refine wpList_plain hg fun K hK' => ?_
 unfold Oper.wp
 have hr := run_min_int2 (P := P) (w := w) ts o.type .i64 .i64 i j
 rw [hk] at hr
 simp [execOp, hop, resolve, invoke, builtin, hx, hy, hr, Result.andThen]
 exact hK' _ _ h
theorem wpList_max {P : Program} {ops : Array Oper} {rest : List Oper} {o : Oper} {a : Act} {w : World} {Q : Exit → Act → World → Prop} (hg : o.guard = none) (x y : Operand) (ts : Array TypeId)
 (hop : o.op = Op.call { callee := Callee.builtin Builtin.max, args := #[x, y], argTypes := ts }) (i j k : Int) (hx : a.eval x = .int .i64 i) (hy : a.eval y = .int .i64 j) (hk : (if j > i then j else i) = k)
 (h : wpList P ops Q rest (a.put o.dst (.int .i64 k)) w) : wpList P ops Q (o :: rest) a w := by
 refine wpList_plain hg fun K hK' => ?_
 unfold Oper.wp
 have hr := run_max_int2 (P := P) (w := w) ts o.type .i64 .i64 i j
 rw [hk] at hr
 simp [execOp, hop, resolve, invoke, builtin, hx, hy, hr, Result.andThen]
 exact hK' _ _ h
theorem make0 (w : World) : (Instr.makeSlice 36 (.int .i64 128) (.int .i64 128)).run Tryz.prog w = .ok (.slice (some ⟨w.heap.size, 0, none⟩) 128 128) (w.alloc (.cells (secCells (zerosN 128)).toArray 5)) := makeN 128 (by omega) w
theorem cutAt_some (g o c l : Nat) (h : l < c) : cutAt (some ⟨g, o, none⟩) c l = some ⟨g, o + l, none⟩ := by
 unfold cutAt
 rw [if_neg (by omega)]
 simp [Addr.add_mid]
theorem splice_mid {α : Type} (A P Z C : List α) (k : Nat) (hk : k = A.length + P.length) : splice (A ++ (P ++ Z)) k C = A ++ (P ++ (C ++ Z.drop C.length)) := by
 subst hk
 unfold splice
 rw [← List.append_assoc A P Z, List.take_left' (by simp), List.drop_append, List.drop_of_length_le (by simp), List.nil_append]
 simp only [List.append_assoc, List.length_append]
 congr 4
 omega
theorem img_eq (R : Rg) (s : Nat) (X : List UInt8) (hX : X.length = 128) (hp : R.puts s) :
 splice (secCells (rheadOf s (R.high s - s * 118) ++ (aheadOf X s (R.lead s) ++ zerosN (118 - R.lead s)))) (10 + R.lead s) (secCells ((R.held.drop (s * 118 + R.lead s - R.start)).take (R.high s - (s * 118 + R.lead s)))) = secCells (R.img s X) := by
 have p1 := hp.lo
 have p2 := hp.hi
 have hn : R.lead s ≤ 118 := by unfold Rg.lead; omega
 have hA := length_aheadOf X s (R.lead s) hX hn
 have hB : ((R.held.drop (s * 118 + R.lead s - R.start)).take (R.high s - (s * 118 + R.lead s))).length = R.high s - (s * 118 + R.lead s) := by
  unfold Rg.tail at p2
  simp only [List.length_take, List.length_drop, Rg.lead, Rg.high, Rg.tail]
  omega
 have hH := rlength_headOf s (R.high s - s * 118)
 rw [secCells_append, secCells_append, splice_mid _ _ _ _ _ (by rw [length_secCells, length_secCells, hH, hA])]
 unfold Rg.img Rg.body
 rw [secCells_append, secCells_append, secCells_append, length_secCells, hB]
 simp only [List.append_assoc]
 congr 3
 have e2 : ∀ (A : List UInt8) (k : Nat), (secCells A).drop k = secCells (A.drop k) := fun A k => by simp [secCells]
 rw [e2]
 congr 1
 unfold zerosN
 rw [List.drop_replicate]
 congr 1
 have : R.high s ≤ s * 118 + 118 := by unfold Rg.high; omega
 have : s * 118 + R.lead s ≤ R.high s := by
  unfold Rg.tail at p2
  simp only [Rg.lead, Rg.high, Rg.tail]
  omega
 omega
theorem wpList_make0 {ops : Array Oper} {rest : List Oper} {o : Oper} {a : Act} {w : World} {Q : Exit → Act → World → Prop} (hg : o.guard = none)
 (hop : o.op = Op.makeSlice 36 (.const (.int .i64 128)) (.const (.int .i64 128)))
 (h : ∀ W1, Hid (W1.heap[w.heap.size]? = some (.cells (secCells (zerosN 128)).toArray 5 (0, 0))) → Below w.heap.size w W1 → w.heap.size < W1.heap.size → wpList Tryz.prog ops Q rest (a.put o.dst (.slice (some ⟨w.heap.size, 0, none⟩) 128 128)) W1) : wpList Tryz.prog ops Q (o :: rest) a w := by
 refine wpList_plain hg fun K hK' => ?_
 unfold Oper.wp
 have hr := make0 w
 simp [execOp, hop, hr, Result.andThen, Act.eval]
 exact hK' _ _ (h _ (show _ = _ from heap_alloc_new w _) ((Below.refl _ _).alloc (Nat.le_refl _) _) (by simp))

theorem keep_drop (X : List UInt8) (s n : Nat) (hn : n ≤ 118) :
 (if beval (X.take 8) = s + 1 then (zerosN 128).take 10 ++ ((X.drop 10).take n ++ (zerosN 128).drop (10 + n)) else zerosN 128).drop 10 = aheadOf X s n ++ zerosN (118 - n) := by
 unfold aheadOf
 split
 · rw [List.drop_left' (by simp [zerosN])]
   congr 1
   simp only [zerosN, List.drop_replicate]
   congr 1
   omega
 · simp only [zerosN, List.drop_replicate, List.replicate_append_replicate]
   congr 1
   omega
theorem length_kept (X : List UInt8) (s n : Nat) (hX : X.length = 128) (hn : n ≤ 118) :
 (if beval (X.take 8) = s + 1 then (zerosN 128).take 10 ++ ((X.drop 10).take n ++ (zerosN 128).drop (10 + n)) else zerosN 128).length = 128 := by
 split
 · simp [zerosN]; omega
 · exact length_zerosN 128
theorem Off.of_under {B : Nat} {w w' : World} (h : Below B w w') : Off (List.range' B (w.heap.size - B)) w w' :=
 ⟨h.os, h.tape, h.output, h.size, fun k hk hn => h.block k (by
  rcases Nat.lt_or_ge k B with h1 | h1
  · exact h1
  · exact absurd (List.mem_range'_1.2 ⟨h1, by omega⟩) hn)⟩
theorem not_under {B n k : Nat} (h : k < B) : k ∉ List.range' B n := fun hm => by have := (List.mem_range'_1.1 hm).1; omega
def PutLaw (first : Bool) : Prop := ∀ {w : World} {q p : Nat} {gp fp : List Nat} {R : Rg} {D : Dv} (s : Nat) (h : RgAt w q p gp R) (hD : DevC w p fp D) (hdis : ∀ k ∈ gp, k ∉ fp) (live : D.dead = false) (hpl : R.place s < D.L.length) (hm : D.W.length < 1000000) (hp : R.puts s) (hlo0 : decide (s * 118 < R.start) = first),
    Calls Tryz.prog 130 #[.pointer (some ⟨q, 0, none⟩), .int .i64 (s : Int)] w fun e w' => e = .returned (.int .i64 (D.write (R.place s : Nat) (R.img s (D.newest (R.place s)))).1) ∧
     ∃ fp', DevC w' p fp' (D.write (R.place s : Nat) (R.img s (D.newest (R.place s)))).2 ∧ Off fp w w' ∧ ∀ k ∈ fp', k ∈ fp ∨ w.heap.size ≤ k

set_option maxHeartbeats 4000000 in
set_option maxRecDepth 100000 in
theorem put_first : PutLaw true := by
 intro w q p gp fp R D s h hD hdis live hpl hm hp hlo0
 have HT := hide (tail_any h)
 have hX := length_newest D hD.wf (R.place s) hpl
 obtain ⟨X, hXe⟩ : ∃ X, D.newest (R.place s) = X := ⟨_, rfl⟩
 have HXE := hide hXe
 rw [hXe] at hX ⊢
 clear hXe
 have HX := hide hX
 have HP := hide hp
 have HDIS := hide hdis
 have HAT := hide h
 have HD := hide hD
 have HIMG := hide (Rg.length_img hp hX)
 have ht : R.tail = R.start + R.held.length := rfl
 have b1 := h.wf.start
 have b2 := h.wf.held
 have p1 := hp.lo
 have p2 := hp.hi
 have hs : s < 4611686018427387904 := by omega
 obtain ⟨hv, h⟩ := h
 obtain ⟨ho, hc, hhv⟩ := h.held.len
 subst hhv
 have HHC : Hid (R.held.length ≤ hc) := by
  show _ ≤ _
  rcases h.held with ⟨e, e2⟩ | ⟨g, o, c, e, e2, _⟩
  · rw [e2]; simp
  · injection e with _ _ e3
    omega
 have k3 := h.c3
 have hqlt := h.lt
 have HI := hide h
 have HCUR : Hid (∀ w', Below w.heap.size w w' → w'.cell? ⟨q, 5, none⟩ = some (.slice ho R.held.length hc) ∧ w'.cell? ⟨q, 3, none⟩ = some (.int .i64 R.start)) := fun w' hb => ⟨(h.below hb).c5, (h.below hb).c3⟩
 have HLIM := hide h.lim
 have HQ3 : Hid (∀ W1 w2 w3 : World, Below w.heap.size w W1 → Off (w.heap.size :: fp) W1 w2 → Off [w.heap.size] w2 w3 → RgIs w3 q p gp R (.slice ho R.held.length hc) ∧ Off fp w w3) := fun W1 w2 w3 hb o2 o3 => by
  have hng : w.heap.size ∉ gp := fun hm => by have := h.lim _ hm; omega
  refine ⟨((h.below hb).apart o2 (fun k hk hm => by rcases List.mem_cons.1 hm with e | e; exact hng (e ▸ hk); exact hdis k hk e)).apart o3 (fun k hk hm => by simp at hm; exact hng (hm ▸ hk)), ?_⟩
  exact ((Off.of_below hb fp).trans o2 (fun i hi => by rcases List.mem_cons.1 hi with e | e; exact .inr (by omega); exact .inl e)).trans o3 (fun i hi => by simp at hi; exact .inr (by omega))
 clear h hX hp hdis hD
 obtain ⟨L, hL⟩ : ∃ L, s * 118 = L := ⟨_, rfl⟩
 obtain ⟨H, hH⟩ : ∃ H, R.high s = H := ⟨_, rfl⟩
 have hHH : H = min (L + 118) (R.start + R.held.length) := by rw [← hH, ← hL]; rfl
 have hlow : (s : Int) * 118 = (L : Int) := by omega
 have HLE := hide hL
 have HHE := hide hH
 have hmin : (if ((R.start : Int) + (R.held.length : Int)) < (L : Int) + 118 then ((R.start : Int) + (R.held.length : Int)) else (L : Int) + 118) = (H : Int) := by split <;> omega
 have HMIN := hide hmin
 have hHb : L ≤ H ∧ H ≤ L + 118 ∧ R.start ≤ H ∧ H ≤ R.start + R.held.length := by omega
 obtain ⟨hH1, hH2, hH3, hH4⟩ := hHb
 obtain ⟨C, hC⟩ : ∃ C, H - L = C := ⟨_, rfl⟩
 have hcnt : (H : Int) - (L : Int) = (C : Int) := by omega
 have HCE := hide hC
 have hC118 : C ≤ 118 := by omega
 clear hmin hL hH hC hHH
 have hlo : L < R.start := by rw [← HLE.out]; simpa using hlo0
 clear hlo0
 obtain ⟨n, hn⟩ : ∃ n, R.start - L = n := ⟨_, rfl⟩
 have HLEAD : Hid (R.lead s = n) := by show _ = _; unfold Rg.lead; rw [HLE.out]; omega
 have hn118 : n ≤ 117 := by omega
 obtain ⟨B, hB⟩ : ∃ B, L + n = B := ⟨_, rfl⟩
 have hmax : (if (R.start : Int) > (L : Int) then (R.start : Int) else (L : Int)) = (B : Int) := by split <;> omega
 have HMAX := hide hmax
 have hten : (10 : Int) + (B : Int) - (L : Int) = 10 + (n : Int) := by omega
 obtain ⟨d, hd⟩ : ∃ d, B - R.start = d := ⟨_, rfl⟩
 obtain ⟨e, he⟩ : ∃ e, H - R.start = e := ⟨_, rfl⟩
 have hbs : (B : Int) - (R.start : Int) = (d : Int) := by omega
 have hhs : (H : Int) - (R.start : Int) = (e : Int) := by omega
 have hde : d ≤ e := by omega
 have hel : e ≤ R.held.length := by omega
 have HDE := hide hd
 have HEE := hide he
 have HBE := hide hB
 clear hmax hd he hB
 have hcut1 : ∀ (G : Nat) (w : World), (Instr.sliceAt 36 (.slice (some ⟨G, 0, none⟩) 128 128) (some (.int .i64 (10 + (n : Int)))) none none).run Tryz.prog w = .ok (.slice (some ⟨G, 10 + n, none⟩) (118 - n) (118 - n)) w := fun G w => by
  have := run_cut_from w (some ⟨G, 0, none⟩) 128 128 (10 + n) (by omega)
  rw [cutAt_some G 0 128 (10 + n) (by omega), show 128 - (10 + n) = 118 - n by omega, show ((10 + n : Nat) : Int) = 10 + (n : Int) by omega, show 0 + (10 + n) = 10 + n by omega] at this
  exact this
 have hcut2 := fun w => run_cut w ho R.held.length hc d e hde (by have := HHC.out; omega)
 have hw1 : IntKind.i64.wrap (10 + (n : Int)) = 10 + (n : Int) := by rw [IntKind.wrap_i64]; omega
 have hw0 : IntKind.i64.wrap (10 + (B : Int)) = 10 + (B : Int) := by rw [IntKind.wrap_i64]; omega
 have hw2 : IntKind.i64.wrap (d : Int) = (d : Int) := by rw [IntKind.wrap_i64]; omega
 have hw3 : IntKind.i64.wrap (e : Int) = (e : Int) := by rw [IntKind.wrap_i64]; omega

 have hstk : (10 : Int) + (R.start : Int) - (L : Int) = ((10 + n : Nat) : Int) := by omega
 have hcutK : ∀ (G : Nat) (w : World), (Instr.sliceAt 36 (.slice (some ⟨G, 0, none⟩) 128 128) (some (.int .i64 10)) (some (.int .i64 ((10 + n : Nat) : Int))) none).run Tryz.prog w = .ok (.slice (some ⟨G, 10, none⟩) n 118) w := fun G w => by
  have := run_cut w (some ⟨G, 0, none⟩) 128 128 10 (10 + n) (by omega) (by omega)
  rw [cutAt_some G 0 128 10 (by omega), show 10 + n - 10 = n by omega] at this
  exact this
 have HKEEP := hide (fun (W1 : World) (hb : Below w.heap.size w W1) (hg : W1.heap[w.heap.size]? = some (.cells (secCells (zerosN 128)).toArray 5 (0, 0))) => keep_ok (w := W1) s w.heap.size n (zerosN 128) (HAT.out.below hb) (HD.out.below hb) HDIS.out live hpl hm hs hg (length_zerosN 128) HD.out.notin (by omega))
 have hlt : (L : Int) < (R.start : Int) := by omega
 rw [HXE.out] at HKEEP

 have HN := hide hn
 clear hn
 go_enter Tryz.func130, Tryz.ntmps130
 go_wp2_with (first
  | (go_at_call 56; refine HT.out.mono ?_; rintro e w' ⟨rfl, m, rfl⟩)
  | (refine wpList_min rfl (.tmp 13) (.tmp 15) #[3, 3] rfl _ _ (H : Int) rfl rfl HMIN.out ?_)
  | (refine wpList_make0 rfl rfl ?_; intro W1 hG1 hB1' hs1; have hB1 : Below w.heap.size w W1 := ⟨hB1'.os, hB1'.tape, hB1'.output, hB1'.size, hB1'.block⟩; clear hB1'; obtain ⟨k51, k31⟩ := HCUR.out W1 hB1)
  | (go_at_call 151; refine (HKEEP.out _ hB1 hG1.out).mono ?_; rintro e w2 ⟨rfl, hD2, hb2, hO2⟩; have HD2 := hide hD2; have HB2 := hide hb2; have HO2 := hide hO2; clear hD2 hb2 hO2)
  | (go_at_call 152; refine (setHead_any w.heap.size 128 s C _ w2 HB2.out (length_kept X s n HX.out (by omega)) (by omega) hs hC118).mono ?_; rintro e w3 ⟨rfl, hb3, hO3⟩; have HB3 := hide hb3; have HO3 := hide hO3; have k33 := (HQ3.out W1 w2 w3 hB1 HO2.out hO3).1.c3; clear hb3 hO3)
  | (refine wpList_max rfl (.tmp 45) (.tmp 49) #[3, 3] rfl _ _ (B : Int) rfl rfl HMAX.out ?_))
 obtain ⟨hI3, hO3⟩ := HQ3.out W1 w2 w3 hB1 HO2.out HO3.out
 have HB4 : Hid (w3.heap[w.heap.size]? = some (.cells (secCells (rheadOf s C ++ (aheadOf X s n ++ zerosN (118 - n)))).toArray 5 (0, 0))) := by have := HB3.out; rw [keep_drop X s n (by omega)] at this; exact this
 have HD3 := hide (HD2.out.apart HO3.out (fun k hk hm => by simp at hm; exact HD.out.notin (hm ▸ hk)))
 clear HO2 HB2 HD2 HKEEP hcutK
 have HI3 := hide hI3
 have HO3' := hide hO3
 have hsz3 : w.heap.size < w3.heap.size := (Array.getElem?_eq_some_iff.1 HB4.out).1
 have k53 := hI3.c5
 clear HB3 HO3 hG1 k51 k31 k3 hI3 hO3 HQ3 HCUR HMIN HMAX HT HI HAT hlow hcnt
 have HG4 : Hid (w3.drew.heap[w.heap.size]? = some (.cells (secCells (rheadOf s C ++ (aheadOf X s n ++ zerosN (118 - n)))).toArray 5 (0, 0))) := HB4.out
 have hcl : ((R.held.drop d).take (e - d)).length = e - d := by rw [List.length_take, List.length_drop]; omega
 have HC1 : Hid ((secCells ((R.held.drop d).take (e - d))).length = Nat.min (e - d) (118 - n)) := by
  show _ = _
  rw [length_secCells, hcl]
  have := HDE.out
  have := HEE.out
  have := HBE.out
  exact (Nat.min_eq_left (by omega)).symm
 have HPOS : Hid (0 < (secCells ((R.held.drop d).take (e - d))).length → some (⟨w.heap.size, 10 + n, none⟩ : Addr) = some ⟨w.heap.size, 10 + n, none⟩ ∧ ∃ ad, cutAt ho hc d = some ad ∧ ∀ j v, (secCells ((R.held.drop d).take (e - d)))[j]? = some v → w3.drew.cell? (ad.add j) = some v) := by
  intro hp
  exact ⟨rfl, cut_src (HI3.out.drewN 1).held d (e - d) (by omega) hp⟩
 have HFIT : Hid (10 + n + (secCells ((R.held.drop d).take (e - d))).length ≤ (secCells (rheadOf s C ++ (aheadOf X s n ++ zerosN (118 - n)))).length) := by
  show _ ≤ _
  rw [length_secCells, length_secCells, hcl, List.length_append, List.length_append, rlength_headOf, length_aheadOf X s n HX.out (by omega), length_zerosN]
  have := HDE.out
  have := HEE.out
  have := HBE.out
  omega
 have HCUT : Hid (cutAt ho hc d = cutAt ho hc d) := by show _ = _; rfl
 have HUN : Hid (∀ w4, Below w.heap.size w3 w4 → RgIs w4 q p gp R (.slice ho R.held.length hc) ∧ DevC w4 p fp D ∧ Off fp w w4) := fun w4 hb => by
  have ho4 := Off.of_under hb
  refine ⟨HI3.out.apart ho4 (fun k hk => not_under (HLIM.out k hk)), HD3.out.apart ho4 (fun k hk => not_under (HD.out.lim k hk)), HO3'.out.trans ho4 (fun i hi => .inr ?_)⟩
  exact (List.mem_range'_1.1 hi).1
 have HB3' : Hid (Below w.heap.size w3 w3.drew) := (Below.refl _ _).drew
 clear hcl hH1 hH2 hH3 hH4 HHC hB1 hs1 hsz3
 go_region_held_law (fun w' => w'.cell? ⟨q, 5, none⟩ = some (.slice ho R.held.length hc) ∧ w'.cell? ⟨q, 3, none⟩ = some (.int .i64 R.start)) (simp [*])
  (first | (refine step_copy_splice rfl (.tmp 56) (.tmp 73) 36 36 rfl 5 Tryz.underlying36 Tryz.size5 (some ⟨w.heap.size, 10 + n, none⟩) (cutAt ho hc d) (118 - n) (118 - n) (e - d) (hc - d) rfl rfl w.heap.size (10 + n) (secCells (rheadOf s C ++ (aheadOf X s n ++ zerosN (118 - n)))) 5 HG4.out (secCells ((R.held.drop d).take (e - d))) HC1.out HPOS.out HFIT.out (one_secCells _) w.heap.size w3 HB3'.out (Nat.le_refl _) ?_; intro w4 hg4 hb4; have c45 := (HUN.out w4 hb4).1.c5; have c43 := (HUN.out w4 hb4).1.c3))
 obtain ⟨hI4, hD4, hO4⟩ := HUN.out w4 hb4
 have HG5 : Hid (w4.heap[w.heap.size]? = some (.cells (secCells (R.img s X)).toArray 5 (0, 0))) := by
  show _ = _
  rw [hg4.out, ← img_eq R s X HX.out HP.out, HLEAD.out, HHE.out, HLE.out, HCE.out, show L + n - R.start = d by have := HDE.out; have := HBE.out; omega, show H - (L + n) = e - d by have := HDE.out; have := HBE.out; have := HEE.out; omega]
 have HO4 := hide hO4
 have HP4 := hide (fun m => rplace_any s hs (R := R) (w := w4.drewN m) ⟨_, hI4.drewN m⟩)
 have HW4 := hide (fun m => write_c (w := w4.drewN m) (R.place s : Nat) w.heap.size 128 (R.img s X) 5 (0, 0) (hD4.drewN m) hm HIMG.out HG5.out HD.out.notin)
 have c40 := hI4.c0
 have HK0 : Hid (∀ w5, Off fp w4 w5 → w5.cell? ⟨q, 0, none⟩ = some (.pointer (some ⟨p, 0, none⟩))) := fun w5 ho => (hI4.apart ho HDIS.out).c0
 clear hI4 hD4 hO4 hg4 hb4 HUN HB3' HFIT HPOS HC1 HG4 HI3 HO3' HB4 HD3 c45 c43 k33 k53 hcut1 hcut2 hw0 hw1 hw2 hw3 hten hbs hhs
 go_wp2
 go_region_held (fun w' => w'.cell? ⟨q, 0, none⟩ = some (.pointer (some ⟨p, 0, none⟩))) (simp [*])
  (first
    | (go_at_call 131; refine (HP4.out 1).mono ?_; rintro e w1 ⟨rfl, m1, rfl⟩)
    | (go_at_call 113; refine (HW4.out _).mono ?_; rintro e w5 ⟨rfl, fp5, hD5, hO5, hF5⟩; have k05 := HK0.out w5 ⟨hO5.os, hO5.tape, hO5.output, hO5.size, hO5.block⟩))
 go_wp2
 go_ret
 refine ⟨rfl, fp5, hD5, ?_, fun k hk => ?_⟩
 · exact HO4.out.trans (fp' := fp) ⟨hO5.os, hO5.tape, hO5.output, hO5.size, hO5.block⟩ (fun i hi => .inl hi)
 · rcases hF5 k hk with h1 | h1
   · exact .inl h1
   · exact .inr (Nat.le_trans HO4.out.size h1)
set_option maxHeartbeats 4000000 in
set_option maxRecDepth 100000 in
theorem put_later : PutLaw false := by
 intro w q p gp fp R D s h hD hdis live hpl hm hp hlo0
 have HT := hide (tail_any h)
 have hX := length_newest D hD.wf (R.place s) hpl
 obtain ⟨X, hXe⟩ : ∃ X, D.newest (R.place s) = X := ⟨_, rfl⟩
 have HXE := hide hXe
 rw [hXe] at hX ⊢
 clear hXe
 have HX := hide hX
 have HP := hide hp
 have HDIS := hide hdis
 have HAT := hide h
 have HD := hide hD
 have HIMG := hide (Rg.length_img hp hX)
 have ht : R.tail = R.start + R.held.length := rfl
 have b1 := h.wf.start
 have b2 := h.wf.held
 have p1 := hp.lo
 have p2 := hp.hi
 have hs : s < 4611686018427387904 := by omega
 obtain ⟨hv, h⟩ := h
 obtain ⟨ho, hc, hhv⟩ := h.held.len
 subst hhv
 have HHC : Hid (R.held.length ≤ hc) := by
  show _ ≤ _
  rcases h.held with ⟨e, e2⟩ | ⟨g, o, c, e, e2, _⟩
  · rw [e2]; simp
  · injection e with _ _ e3
    omega
 have k3 := h.c3
 have hqlt := h.lt
 have HI := hide h
 have HCUR : Hid (∀ w', Below w.heap.size w w' → w'.cell? ⟨q, 5, none⟩ = some (.slice ho R.held.length hc) ∧ w'.cell? ⟨q, 3, none⟩ = some (.int .i64 R.start)) := fun w' hb => ⟨(h.below hb).c5, (h.below hb).c3⟩
 have HLIM := hide h.lim
 have HQ3 : Hid (∀ W1 w2 w3 : World, Below w.heap.size w W1 → Off (w.heap.size :: fp) W1 w2 → Off [w.heap.size] w2 w3 → RgIs w3 q p gp R (.slice ho R.held.length hc) ∧ Off fp w w3) := fun W1 w2 w3 hb o2 o3 => by
  have hng : w.heap.size ∉ gp := fun hm => by have := h.lim _ hm; omega
  refine ⟨((h.below hb).apart o2 (fun k hk hm => by rcases List.mem_cons.1 hm with e | e; exact hng (e ▸ hk); exact hdis k hk e)).apart o3 (fun k hk hm => by simp at hm; exact hng (hm ▸ hk)), ?_⟩
  exact ((Off.of_below hb fp).trans o2 (fun i hi => by rcases List.mem_cons.1 hi with e | e; exact .inr (by omega); exact .inl e)).trans o3 (fun i hi => by simp at hi; exact .inr (by omega))
 clear h hX hp hdis hD
 obtain ⟨L, hL⟩ : ∃ L, s * 118 = L := ⟨_, rfl⟩
 obtain ⟨H, hH⟩ : ∃ H, R.high s = H := ⟨_, rfl⟩
 have hHH : H = min (L + 118) (R.start + R.held.length) := by rw [← hH, ← hL]; rfl
 have hlow : (s : Int) * 118 = (L : Int) := by omega
 have HLE := hide hL
 have HHE := hide hH
 have hmin : (if ((R.start : Int) + (R.held.length : Int)) < (L : Int) + 118 then ((R.start : Int) + (R.held.length : Int)) else (L : Int) + 118) = (H : Int) := by split <;> omega
 have HMIN := hide hmin
 have hHb : L ≤ H ∧ H ≤ L + 118 ∧ R.start ≤ H ∧ H ≤ R.start + R.held.length := by omega
 obtain ⟨hH1, hH2, hH3, hH4⟩ := hHb
 obtain ⟨C, hC⟩ : ∃ C, H - L = C := ⟨_, rfl⟩
 have hcnt : (H : Int) - (L : Int) = (C : Int) := by omega
 have HCE := hide hC
 have hC118 : C ≤ 118 := by omega
 clear hmin hL hH hC hHH
 have hlo : ¬ L < R.start := by rw [← HLE.out]; simpa using hlo0
 clear hlo0
 obtain ⟨n, hn⟩ : ∃ n : Nat, n = 0 := ⟨_, rfl⟩
 have HLEAD : Hid (R.lead s = n) := by show _ = _; unfold Rg.lead; rw [HLE.out]; omega
 have hn118 : n ≤ 117 := by omega
 obtain ⟨B, hB⟩ : ∃ B, L + n = B := ⟨_, rfl⟩
 have hmax : (if (R.start : Int) > (L : Int) then (R.start : Int) else (L : Int)) = (B : Int) := by split <;> omega
 have HMAX := hide hmax
 have hten : (10 : Int) + (B : Int) - (L : Int) = 10 + (n : Int) := by omega
 obtain ⟨d, hd⟩ : ∃ d, B - R.start = d := ⟨_, rfl⟩
 obtain ⟨e, he⟩ : ∃ e, H - R.start = e := ⟨_, rfl⟩
 have hbs : (B : Int) - (R.start : Int) = (d : Int) := by omega
 have hhs : (H : Int) - (R.start : Int) = (e : Int) := by omega
 have hde : d ≤ e := by omega
 have hel : e ≤ R.held.length := by omega
 have HDE := hide hd
 have HEE := hide he
 have HBE := hide hB
 clear hmax hd he hB
 have hcut1 : ∀ (G : Nat) (w : World), (Instr.sliceAt 36 (.slice (some ⟨G, 0, none⟩) 128 128) (some (.int .i64 (10 + (n : Int)))) none none).run Tryz.prog w = .ok (.slice (some ⟨G, 10 + n, none⟩) (118 - n) (118 - n)) w := fun G w => by
  have := run_cut_from w (some ⟨G, 0, none⟩) 128 128 (10 + n) (by omega)
  rw [cutAt_some G 0 128 (10 + n) (by omega), show 128 - (10 + n) = 118 - n by omega, show ((10 + n : Nat) : Int) = 10 + (n : Int) by omega, show 0 + (10 + n) = 10 + n by omega] at this
  exact this
 have hcut2 := fun w => run_cut w ho R.held.length hc d e hde (by have := HHC.out; omega)
 have hw1 : IntKind.i64.wrap (10 + (n : Int)) = 10 + (n : Int) := by rw [IntKind.wrap_i64]; omega
 have hw0 : IntKind.i64.wrap (10 + (B : Int)) = 10 + (B : Int) := by rw [IntKind.wrap_i64]; omega
 have hw2 : IntKind.i64.wrap (d : Int) = (d : Int) := by rw [IntKind.wrap_i64]; omega
 have hw3 : IntKind.i64.wrap (e : Int) = (e : Int) := by rw [IntKind.wrap_i64]; omega

 have hlt : decide ((L : Int) < (R.start : Int)) = false := by simp; omega

 have HN := hide hn
 clear hn
 go_enter Tryz.func130, Tryz.ntmps130
 go_wp2_with (first
  | (go_at_call 56; refine HT.out.mono ?_; rintro e w' ⟨rfl, m, rfl⟩)
  | (refine wpList_min rfl (.tmp 13) (.tmp 15) #[3, 3] rfl _ _ (H : Int) rfl rfl HMIN.out ?_)
  | (refine wpList_make0 rfl rfl ?_; intro W1 hG1 hB1' hs1; have hB1 : Below w.heap.size w W1 := ⟨hB1'.os, hB1'.tape, hB1'.output, hB1'.size, hB1'.block⟩; clear hB1'; obtain ⟨k51, k31⟩ := HCUR.out W1 hB1)
  | (go_at_call 152; refine (setHead_any w.heap.size 128 s C _ W1 hG1.out (length_zerosN 128) (by omega) hs hC118).mono ?_; rintro e w3 ⟨rfl, hb3, hO3⟩; have HB3 := hide hb3; have HO3 := hide hO3; have k33 := (HQ3.out W1 W1 w3 hB1 (Off.refl _ _) hO3).1.c3; clear hb3 hO3)
  | (refine wpList_max rfl (.tmp 45) (.tmp 49) #[3, 3] rfl _ _ (B : Int) rfl rfl HMAX.out ?_))
 obtain ⟨hI3, hO3⟩ := HQ3.out W1 W1 w3 hB1 (Off.refl _ _) HO3.out
 have HB4 : Hid (w3.heap[w.heap.size]? = some (.cells (secCells (rheadOf s C ++ (aheadOf X s n ++ zerosN (118 - n)))).toArray 5 (0, 0))) := by
  have := HB3.out
  have e0 : aheadOf X s n ++ zerosN (118 - n) = (zerosN 128).drop 10 := by
   rw [HN.out]
   unfold aheadOf
   split <;> simp [zerosN]
  rw [e0]
  exact this
 have HD3 := hide ((HD.out.below hB1).apart HO3.out (fun k hk hm => by simp at hm; exact HD.out.notin (hm ▸ hk)))
 have HI3 := hide hI3
 have HO3' := hide hO3
 have hsz3 : w.heap.size < w3.heap.size := (Array.getElem?_eq_some_iff.1 HB4.out).1
 have k53 := hI3.c5
 clear HB3 HO3 hG1 k51 k31 k3 hI3 hO3 HQ3 HCUR HMIN HMAX HT HI HAT hlow hcnt
 have HG4 : Hid (w3.drew.heap[w.heap.size]? = some (.cells (secCells (rheadOf s C ++ (aheadOf X s n ++ zerosN (118 - n)))).toArray 5 (0, 0))) := HB4.out
 have hcl : ((R.held.drop d).take (e - d)).length = e - d := by rw [List.length_take, List.length_drop]; omega
 have HC1 : Hid ((secCells ((R.held.drop d).take (e - d))).length = Nat.min (e - d) (118 - n)) := by
  show _ = _
  rw [length_secCells, hcl]
  have := HDE.out
  have := HEE.out
  have := HBE.out
  exact (Nat.min_eq_left (by omega)).symm
 have HPOS : Hid (0 < (secCells ((R.held.drop d).take (e - d))).length → some (⟨w.heap.size, 10 + n, none⟩ : Addr) = some ⟨w.heap.size, 10 + n, none⟩ ∧ ∃ ad, cutAt ho hc d = some ad ∧ ∀ j v, (secCells ((R.held.drop d).take (e - d)))[j]? = some v → w3.drew.cell? (ad.add j) = some v) := by
  intro hp
  exact ⟨rfl, cut_src (HI3.out.drewN 1).held d (e - d) (by omega) hp⟩
 have HFIT : Hid (10 + n + (secCells ((R.held.drop d).take (e - d))).length ≤ (secCells (rheadOf s C ++ (aheadOf X s n ++ zerosN (118 - n)))).length) := by
  show _ ≤ _
  rw [length_secCells, length_secCells, hcl, List.length_append, List.length_append, rlength_headOf, length_aheadOf X s n HX.out (by omega), length_zerosN]
  have := HDE.out
  have := HEE.out
  have := HBE.out
  omega
 have HCUT : Hid (cutAt ho hc d = cutAt ho hc d) := by show _ = _; rfl
 have HUN : Hid (∀ w4, Below w.heap.size w3 w4 → RgIs w4 q p gp R (.slice ho R.held.length hc) ∧ DevC w4 p fp D ∧ Off fp w w4) := fun w4 hb => by
  have ho4 := Off.of_under hb
  refine ⟨HI3.out.apart ho4 (fun k hk => not_under (HLIM.out k hk)), HD3.out.apart ho4 (fun k hk => not_under (HD.out.lim k hk)), HO3'.out.trans ho4 (fun i hi => .inr ?_)⟩
  exact (List.mem_range'_1.1 hi).1
 have HB3' : Hid (Below w.heap.size w3 w3.drew) := (Below.refl _ _).drew
 clear hcl hH1 hH2 hH3 hH4 HHC hB1 hs1 hsz3
 go_region_held_law (fun w' => w'.cell? ⟨q, 5, none⟩ = some (.slice ho R.held.length hc) ∧ w'.cell? ⟨q, 3, none⟩ = some (.int .i64 R.start)) (simp [*])
  (first | (refine step_copy_splice rfl (.tmp 56) (.tmp 73) 36 36 rfl 5 Tryz.underlying36 Tryz.size5 (some ⟨w.heap.size, 10 + n, none⟩) (cutAt ho hc d) (118 - n) (118 - n) (e - d) (hc - d) rfl rfl w.heap.size (10 + n) (secCells (rheadOf s C ++ (aheadOf X s n ++ zerosN (118 - n)))) 5 HG4.out (secCells ((R.held.drop d).take (e - d))) HC1.out HPOS.out HFIT.out (one_secCells _) w.heap.size w3 HB3'.out (Nat.le_refl _) ?_; intro w4 hg4 hb4; have c45 := (HUN.out w4 hb4).1.c5; have c43 := (HUN.out w4 hb4).1.c3))
 obtain ⟨hI4, hD4, hO4⟩ := HUN.out w4 hb4
 have HG5 : Hid (w4.heap[w.heap.size]? = some (.cells (secCells (R.img s X)).toArray 5 (0, 0))) := by
  show _ = _
  rw [hg4.out, ← img_eq R s X HX.out HP.out, HLEAD.out, HHE.out, HLE.out, HCE.out, show L + n - R.start = d by have := HDE.out; have := HBE.out; omega, show H - (L + n) = e - d by have := HDE.out; have := HBE.out; have := HEE.out; omega]
 have HO4 := hide hO4
 have HP4 := hide (fun m => rplace_any s hs (R := R) (w := w4.drewN m) ⟨_, hI4.drewN m⟩)
 have HW4 := hide (fun m => write_c (w := w4.drewN m) (R.place s : Nat) w.heap.size 128 (R.img s X) 5 (0, 0) (hD4.drewN m) hm HIMG.out HG5.out HD.out.notin)
 have c40 := hI4.c0
 have HK0 : Hid (∀ w5, Off fp w4 w5 → w5.cell? ⟨q, 0, none⟩ = some (.pointer (some ⟨p, 0, none⟩))) := fun w5 ho => (hI4.apart ho HDIS.out).c0
 clear hI4 hD4 hO4 hg4 hb4 HUN HB3' HFIT HPOS HC1 HG4 HI3 HO3' HB4 HD3 c45 c43 k33 k53 hcut1 hcut2 hw0 hw1 hw2 hw3 hten hbs hhs
 go_wp2
 go_region_held (fun w' => w'.cell? ⟨q, 0, none⟩ = some (.pointer (some ⟨p, 0, none⟩))) (simp [*])
  (first
    | (go_at_call 131; refine (HP4.out 1).mono ?_; rintro e w1 ⟨rfl, m1, rfl⟩)
    | (go_at_call 113; refine (HW4.out _).mono ?_; rintro e w5 ⟨rfl, fp5, hD5, hO5, hF5⟩; have k05 := HK0.out w5 ⟨hO5.os, hO5.tape, hO5.output, hO5.size, hO5.block⟩))
 go_wp2
 go_ret
 refine ⟨rfl, fp5, hD5, ?_, fun k hk => ?_⟩
 · exact HO4.out.trans (fp' := fp) ⟨hO5.os, hO5.tape, hO5.output, hO5.size, hO5.block⟩ (fun i hi => .inl hi)
 · rcases hF5 k hk with h1 | h1
   · exact .inl h1
   · exact .inr (Nat.le_trans HO4.out.size h1)
theorem put_ok {w : World} {q p : Nat} {gp fp : List Nat} {R : Rg} {D : Dv} (s : Nat) (h : RgAt w q p gp R) (hD : DevC w p fp D) (hdis : ∀ k ∈ gp, k ∉ fp) (live : D.dead = false) (hpl : R.place s < D.L.length) (hm : D.W.length < 1000000) (hp : R.puts s) :
 Calls Tryz.prog 130 #[.pointer (some ⟨q, 0, none⟩), .int .i64 (s : Int)] w fun e w' => e = .returned (.int .i64 (D.write (R.place s : Nat) (R.img s (D.newest (R.place s)))).1) ∧
  ∃ fp', DevC w' p fp' (D.write (R.place s : Nat) (R.img s (D.newest (R.place s)))).2 ∧ Off fp w w' ∧ ∀ k ∈ fp', k ∈ fp ∨ w.heap.size ≤ k := by
 cases hb : decide (s * 118 < R.start) with
 | true => exact put_first s h hD hdis live hpl hm hp hb
 | false => exact put_later s h hD hdis live hpl hm hp hb
end Go.Proofs.YteeembildppgmaaGreat
