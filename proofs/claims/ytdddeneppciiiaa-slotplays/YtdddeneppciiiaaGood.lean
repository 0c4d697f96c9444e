/- The calls at pages that are well; the law's own check; rows of bytes that came in. -/
import Derived.Test.YtdddeneppciiiaaDel
import Derived.Lib.SlBytesConst
import Derived.Deep.Matrix
import Derived.ChangeSlices
namespace Go.Proofs.Ytdddeneppciiiaa
open Go.RowKit
set_option linter.unusedVariables false
set_option linter.unusedSimpArgs false

theorem sl_form {w : World} {v : Value} {bs : List UInt8} (h : Sl w v bs) : ∃ ao c, v = .slice ao bs.length c := let ⟨ao, c, e, _⟩ := h; ⟨ao, c, e⟩
def Pg.can (g : Pg) (d : List UInt8) : Prop := d.length ≤ 480 ∧ tsize (g.putS d) ≤ 504
def Pg.err (g : Pg) (d : List UInt8) : Int := if 480 < d.length then 1 else 60
theorem err_ne (g : Pg) (d : List UInt8) : g.err d ≠ 0 := by unfold Pg.err; split <;> omega
theorem can_good {g : Pg} {d : List UInt8} (h : Good g) (hc : g.can d) : Good (g.put d) := put_good h hc.1 hc.2
theorem put_ok {w : World} {v dv : Value} {g : Pg} {d : List UInt8} (hg : Good g) (h : Sl w v g.enc) (hd : Sl w dv d) (hc : g.can d) :
    Calls Try.prog 9 #[v, dv] w fun e w' => ∃ ao c, e = .returned (.tuple #[.int .i64 (g.least : Nat), .slice ao 504 c, .int .i64 0]) ∧ Sl w' (.slice ao 504 c) (g.put d).enc ∧ Below w.heap.size w w' := by
  have e : putOf g.enc d = (0, some (g.least, (g.put d).enc)) := by
    unfold putOf
    rw [dec_enc hg]
    simp only [if_neg (Nat.not_lt.2 hc.1), if_neg (Nat.not_lt.2 hc.2)]
  refine (put_any h hd).mono ?_
  rintro e' w' ⟨hb, h2⟩
  rw [e] at h2
  obtain ⟨v', rfl, hs⟩ := h2
  obtain ⟨ao, c, e3⟩ := sl_form hs
  rw [length_enc _ (can_good hg hc).size] at e3
  subst e3
  exact ⟨ao, c, rfl, hs, hb⟩
theorem put_no {w : World} {v dv : Value} {g : Pg} {d : List UInt8} (hg : Good g) (h : Sl w v g.enc) (hd : Sl w dv d) (hc : ¬ g.can d) :
    Calls Try.prog 9 #[v, dv] w fun e w' => e = .returned (.tuple #[.int .i64 0, .slice none 0 0, .int .i64 (g.err d)]) ∧ Below w.heap.size w w' := by
  have e : putOf g.enc d = (g.err d, none) := by
    unfold putOf Pg.err
    rw [dec_enc hg]
    by_cases h1 : 480 < d.length
    · simp only [if_pos h1]
    · simp only [if_neg h1]
      rw [if_pos]
      refine Classical.byContradiction fun h2 => hc ⟨by omega, by omega⟩
  refine (put_any h hd).mono ?_
  rintro e' w' ⟨hb, h2⟩
  rw [e] at h2
  exact ⟨h2, hb⟩
theorem check_ok {w : World} {v : Value} {g : Pg} (hg : Good g) (h : Sl w v g.enc) : Calls Try.prog 12 #[v] w fun e w' => e = .returned (.bool true) ∧ Below w.heap.size w w' := by
  have := check_any h
  rw [dec_enc hg] at this
  exact this
theorem next_ok {w : World} {v : Value} {g : Pg} (hg : Good g) (h : Sl w v g.enc) : Calls Try.prog 11 #[v] w fun e w' => e = .returned (.int .i64 (g.next : Nat)) ∧ Below w.heap.size w w' := by
  have e : nextOf g.enc = g.next := by unfold nextOf; rw [dec_enc hg]
  have := next_any h
  rw [e] at this
  exact this
theorem free_ok {w : World} {v : Value} {g : Pg} (hg : Good g) (h : Sl w v g.enc) : Calls Try.prog 13 #[v] w fun e w' => e = .returned (.int .i64 (g.free : Nat)) ∧ Below w.heap.size w w' := by
  have e : freeOf g.enc = g.free := by unfold freeOf; rw [dec_enc hg]
  have := free_any h
  rw [e] at this
  exact this
theorem slots_ok {w : World} {v : Value} {g : Pg} (hg : Good g) (h : Sl w v g.enc) : Calls Try.prog 14 #[v] w fun e w' => ∃ ao c, e = .returned (.slice ao g.slots.length c) ∧ w'.ownsRow w.heap.size 3 1 (.slice ao g.slots.length c) g.slots.length (natCells g.slots) ∧ Below w.heap.size w w' := by
  have e : pgOr g.enc = g := by unfold pgOr; rw [dec_enc hg]; rfl
  have := slots_any h
  rw [e] at this
  refine this.mono ?_
  rintro e' w' ⟨u, rfl, ho, hb⟩
  obtain ⟨ao, c, rfl⟩ := owns_len ho
  exact ⟨ao, c, rfl, ho, hb⟩
theorem get_ok {w : World} {v : Value} {g : Pg} {k : Nat} {d : List UInt8} (hg : Good g) (h : Sl w v g.enc) (hk : g.sl.getD k none = some d) :
    Calls Try.prog 15 #[v, .int .i64 (k : Int)] w fun e w' => ∃ ao c, e = .returned (.tuple #[.slice ao d.length c, .bool true]) ∧ Sl w' (.slice ao d.length c) d ∧ Below w.heap.size w w' := by
  have e : getOf g.enc k = some d := by
    unfold getOf
    rw [dec_enc hg]
    simp only [Int.toNat_natCast]
    rw [if_pos (by omega)]
    exact hk
  refine (get_any h k).mono ?_
  rintro e' w' ⟨hb, h2⟩
  rw [e] at h2
  obtain ⟨v', rfl, hs⟩ := h2
  obtain ⟨ao, c, e3⟩ := sl_form hs
  subst e3
  exact ⟨ao, c, rfl, hs, hb⟩
theorem del_ok {w : World} {v : Value} {g : Pg} {k : Nat} {d : List UInt8} (hg : Good g) (h : Sl w v g.enc) (hk : g.sl.getD k none = some d) :
    Calls Try.prog 16 #[v, .int .i64 (k : Int)] w fun e w' => ∃ ao c, e = .returned (.tuple #[.slice ao 504 c, .int .i64 0]) ∧ Sl w' (.slice ao 504 c) (g.del k).enc ∧ Below w.heap.size w w' := by
  have hh : hasB g.sl k = true := by
    unfold hasB
    rw [Int.toNat_natCast, hk]
    simp
  have e : delOf g.enc k = (0, some (g.del k).enc) := by
    unfold delOf
    rw [dec_enc hg]
    simp only [if_pos hh, Int.toNat_natCast]
  refine (del_any h k).mono ?_
  rintro e' w' ⟨hb, h2⟩
  rw [e] at h2
  obtain ⟨v', rfl, hs⟩ := h2
  obtain ⟨ao, c, e3⟩ := sl_form hs
  rw [length_enc _ (del_good hg k).size] at e3
  subst e3
  exact ⟨ao, c, rfl, hs, hb⟩
def Pg.next' (g : Pg) (n : Int) : Pg := if 0 ≤ n ∧ n ≤ 4294967295 then ⟨n.toNat, g.sl⟩ else g
theorem next'_good {g : Pg} (h : Good g) (n : Int) : Good (g.next' n) := by
  unfold Pg.next'
  split
  · exact next_good h (by omega)
  · exact h
theorem setNext_ok {w : World} {v : Value} {g : Pg} (hg : Good g) (h : Sl w v g.enc) (n : Int) :
    Calls Try.prog 10 #[v, .int .i64 n] w fun e w' => ∃ ao c, e = .returned (.slice ao 504 c) ∧ Sl w' (.slice ao 504 c) (g.next' n).enc ∧ Below w.heap.size w w' := by
  have e : setNextOf g.enc n = (g.next' n).enc := by
    unfold setNextOf Pg.next'
    rw [dec_enc hg]
    simp only
    split <;> rfl
  refine (setNext_any h n (by rw [length_enc g hg.size]; omega)).mono ?_
  rintro e' w' ⟨v', rfl, hs, hb⟩
  rw [e] at hs
  obtain ⟨ao, c, e3⟩ := sl_form hs
  rw [length_enc _ (next'_good hg n).size] at e3
  subst e3
  exact ⟨ao, c, rfl, hs, hb⟩

/-! ### The law's own check -/
theorem lit_ab (w : World) : (Instr.buildSlice 23 2 #[(0, .int .u8 97), (1, .int .u8 98)]).run Try.prog w = .ok (.slice (some ⟨w.heap.size, 0, none⟩) 2 2) (w.alloc (.cells #[.int .u8 97, .int .u8 98] 5)) := by
  kernel_rfl
def ab : List UInt8 := [97, 98]
theorem ab_can : Pg.zero.can ab := ⟨by decide, by decide⟩
theorem ab_sl (w : World) : Sl (w.alloc (.cells #[.int .u8 97, .int .u8 98] 5 (2, 3))) (.slice (some ⟨w.heap.size, 0, none⟩) 2 2) ab := by
  refine ⟨_, 2, rfl, Nat.le_refl _, by simp only [maxLen]; omega, fun _ => ⟨w.heap.size, 0, rfl, fun j u hu => ?_⟩⟩
  rw [Nat.zero_add, cell_row (heap_alloc_new w _)]
  have hu : [Value.int .u8 97, .int .u8 98][j]? = some u := hu
  simpa using hu
set_option maxHeartbeats 2000000 in
set_option maxRecDepth 100000 in
theorem awake_any (w : World) : Calls Try.prog 17 #[] w fun e w' => e = .returned (.bool true) ∧ Below w.heap.size w w' := by
  have hlit := lit_ab
  have hconv := fun (w : World) => Go.Lib.run_convert_bytes_const (P := Try.prog) w 23 5 #[.int .u8 97, .int .u8 98] 2 2 Try.underlying23 Try.underlying5
  have HN := hide (new_any w)
  go_enter Try.func17, Try.ntmps17
  go_wp2_with fail
  refine HN.out.mono ?_
  rintro e W1 ⟨q, rfl, hs1, hb1⟩
  have HS1 := hide hs1
  have HB1 := hide hb1
  have HBA : Hid (Below W1.heap.size W1 (W1.alloc (.cells #[.int .u8 97, .int .u8 98] 5 (2, 3)))) := (Below.refl _ _).alloc (Nat.le_refl _) _
  have HP := hide (put_ok zero_good (hs1.belowW HBA.out) (ab_sl W1) ab_can)
  clear HN hs1 hb1
  go_wp2_with fail
  refine HP.out.mono ?_
  rintro e W2 ⟨ao2, c2, rfl, hs2, hb2'⟩
  have hb2 := HBA.out.trans (hb2'.mono HBA.out.size)
  have HS2 := hide hs2
  have HB2 := hide hb2
  have HG := hide (get_ok (k := 0) (d := ab) (can_good zero_good ab_can) hs2 rfl)
  clear HP hs2 hb2 hb2' HBA hlit hconv
  have hls : Pg.zero.least = 0 := rfl
  rw [hls]
  go_wp2_with fail
  refine HG.out.mono ?_
  rintro e W3 ⟨ao3, c3, rfl, hs3, hb3⟩
  have HS3 := hide hs3
  have HB3 := hide hb3
  have HC := hide (check_ok zero_good ((HS1.out.belowW HB2.out).belowW hb3))
  have hl2 : ab.length = 2 := rfl
  clear HG hs3 hb3
  go_wp2_with fail
  refine HC.out.mono ?_
  rintro e W4 ⟨rfl, hb4⟩
  have hs14 := ((HS1.out.belowW HB2.out).belowW HB3.out).belowW hb4
  have HF := hide (free_ok zero_good hs14)
  have hfr : Pg.zero.free = 480 := rfl
  rw [hfr] at HF
  have HB4 := hide hb4
  have HS14 := hide hs14
  clear HC hb4 hs14
  go_wp2_with fail
  refine HF.out.mono ?_
  rintro e W5 ⟨rfl, hb5⟩
  have hc5 := run_str ((HS3.out.belowW HB4.out).belowW hb5)
  rw [hl2] at hc5
  have HSL := hide (slots_ok (can_good zero_good ab_can) (((HS2.out.belowW HB3.out).belowW HB4.out).belowW hb5))
  have hsl : (Pg.zero.put ab).slots.length = 1 := rfl
  rw [hsl] at HSL
  have HB5 := hide hb5
  have HS15 := hide (HS14.out.belowW hb5)
  have hst : strOf ab = { data := #[97, 98] } := rfl
  rw [hst] at hc5
  clear HF hb5
  go_wp2_with fail
  refine HSL.out.mono ?_
  rintro e W6 ⟨ao6, c6, rfl, _, hb6⟩
  have HST := hide (setNext_ok zero_good (HS15.out.belowW hb6) 7)
  have HB6 := hide hb6
  clear HSL hb6 hc5
  go_wp2_with fail
  refine HST.out.mono ?_
  rintro e W7 ⟨ao7, c7, rfl, hs7, hb7⟩
  have HNX := hide (next_ok (next'_good zero_good 7) hs7)
  have hnn : (Pg.zero.next' 7).next = 7 := rfl
  rw [hnn] at HNX
  have HB7 := hide hb7
  clear HST hb7 hs7
  go_wp2_with (go_at_call 11; refine HNX.out.mono ?_; rintro e W8 ⟨rfl, hb8⟩)
  go_ret
  refine ⟨rfl, ?_⟩
  have s1 := HB1.out.size
  have s2 := HB2.out.size
  have s3 := HB3.out.size
  have s4 := HB4.out.size
  have s5 := HB5.out.size
  have s6 := HB6.out.size
  have s7 := HB7.out.size
  exact (((((((HB1.out.trans (HB2.out.mono (by omega))).trans (HB3.out.mono (by omega))).trans (HB4.out.mono (by omega))).trans (HB5.out.mono (by omega))).trans (HB6.out.mono (by omega))).trans (HB7.out.mono (by omega))).trans (hb8.mono (by omega)))
/-! ### Rows of bytes that came in -/
def RowsIn (w : World) (a : Option Addr) (len : Nat) (B : Nat → List UInt8) : Prop :=
  len ≤ 9223372036854775807 ∧ ∀ i, i < len → ∃ b o ai ci, a = some ⟨b, o, none⟩ ∧ w.cell? ⟨b, o + i, none⟩ = some (.slice ai (B i).length ci) ∧ Sl w (.slice ai (B i).length ci) (B i) ∧ (B i).length ≤ 9223372036854775807
theorem rows_in {w wr : World} {a : Option Addr} {len : Nat} {B : Nat → List UInt8} (h : RowsIn w a len B) (hb : Below w.heap.size w wr) (i : Nat) (hi : i < len) :
    ∃ b o ai ci, a = some ⟨b, o, none⟩ ∧ wr.cell? ⟨b, o + i, none⟩ = some (.slice ai (B i).length ci) ∧ Sl wr (.slice ai (B i).length ci) (B i) ∧ (B i).length ≤ 9223372036854775807 := by
  obtain ⟨b, o, ai, ci, h1, h3, h4, h5⟩ := h.2 i hi
  exact ⟨b, o, ai, ci, h1, (hb.cell (World.block_lt_of_cell? w _ h3)).trans h3, h4.belowW hb, h5⟩
def bytesOfInts (zs : List Int) : List UInt8 := zs.map fun n => UInt8.ofNat n.toNat
theorem bcell_ofNat (x : Nat) (h : x < 256) : bcell (UInt8.ofNat x) = .int .u8 (x : Int) := by
  unfold bcell
  rw [UInt8.toNat_ofNat', Nat.mod_eq_of_lt h]
theorem bytes_cell (zs : List Int) (hz : ∀ n ∈ zs, (Lit.int .u8 n).wf = true) (j : Nat) (u : Value) (hu : (secCells (bytesOfInts zs))[j]? = some u) : j < zs.length ∧ u = .int .u8 (zs.getD j 0) := by
  simp only [secCells, bytesOfInts, List.getElem?_map, Option.map_map] at hu
  cases hj : zs[j]? with
  | none => simp [hj] at hu
  | some n =>
    have hlt : j < zs.length := (List.getElem?_eq_some_iff.1 hj).1
    refine ⟨hlt, ?_⟩
    have hn : zs.getD j 0 = n := by simp [hj]
    rw [hn]
    have hw := hz n (List.mem_of_getElem? hj)
    have hw2 : (0 : Int) ≤ n ∧ n ≤ 255 := by
      have h : (decide (IntKind.u8.min ≤ n) && decide (n ≤ IntKind.u8.max)) = true := hw
      rw [Bool.and_eq_true, decide_eq_true_eq, decide_eq_true_eq] at h
      exact h
    simp [hj] at hu
    rw [← hu, bcell_ofNat _ (by omega)]
    congr 1
    omega
theorem Try.cells23 : Try.prog.cellsOf 23 = 1 := by kernel_rfl
theorem Try.cells5 : Try.prog.cellsOf 5 = 1 := by kernel_rfl
/-- Cells as bytes. -/
theorem sl_of_cells {w : World} {ao : Option Addr} {n c : Nat} {zs : List Int} (h1 : n ≤ c) (h2 : c ≤ maxLen) (hl : zs.length = c) (hz : ∀ x ∈ zs, (Lit.int .u8 x).wf = true) (h0 : ao = none → c = 0)
    (hc : ∀ a', ao = some a' → ∀ j, j < c → w.cell? (a'.add j) = some (.int .u8 (zs.getD j 0))) : Sl w (.slice ao n c) (bytesOfInts (zs.take n)) := by
  have hlen : (bytesOfInts (zs.take n)).length = n := by simp [bytesOfInts]; omega
  refine ⟨ao, c, by rw [hlen], by rw [hlen]; exact h1, h2, fun hx => ?_⟩
  have hn : 0 < n := by
    rcases Nat.eq_zero_or_pos n with h | h
    · exact absurd (List.eq_nil_of_length_eq_zero (by rw [length_secCells, hlen, h])) hx
    · exact h
  cases hao : ao with
  | none => have := h0 hao; omega
  | some a' =>
    obtain ⟨b, o, sp⟩ := a'
    have hsp : sp = none := by simpa [Addr.add] using World.cell?_spot (hc _ hao 0 (by omega))
    subst hsp
    refine ⟨b, o, rfl, fun j u hu => ?_⟩
    obtain ⟨hj, rfl⟩ := bytes_cell _ (fun x hx => hz x (List.mem_of_mem_take hx)) j u hu
    rw [List.length_take] at hj
    have := hc _ hao j (by omega)
    rw [Addr.add_mid] at this
    rw [this]
    congr 2
    simp only [List.getD_eq_getElem?_getD, List.getElem?_take]
    rw [if_pos (by omega)]
theorem rows_of {H : Type} {enc : TypeId × Value → H} {w : World} {base fuel : Nat} {a : Option Addr} {len cap : Nat} {x : DataW H × List MemPlace} (h : DataW.trod enc Try.prog w base (fun _ => true) true fuel 22 (Value.slice a len cap).cells.toList = some x) :
    ∃ B, RowsIn w a len B := by
  rcases Deep.open_int_rows Try.underlying22 Try.underlying23 Try.underlying5 Try.cells23 Try.cells5 h with ⟨hcs, _⟩ | ⟨y, l, c, A, L, C, Z, hcs, _, hl, hm, _, hr⟩
  · simp [Value.cells] at hcs
    obtain ⟨rfl, rfl, rfl⟩ := hcs
    exact ⟨fun _ => [], by omega, fun i hi => by omega⟩
  · simp [Value.cells] at hcs
    obtain ⟨rfl, rfl, rfl⟩ := hcs
    have hm' := hm
    simp only [maxLen] at hm'
    refine ⟨fun i => bytesOfInts ((Z i).take (L i)), by omega, fun i hi => ?_⟩
    obtain ⟨h1, h2, h3, h4, h5, h6, h7⟩ := hr i (by omega)
    have hlen : (bytesOfInts ((Z i).take (L i))).length = L i := by simp [bytesOfInts]; omega
    obtain ⟨b, o, sp⟩ := y
    have hsp : sp = none := by simpa [Addr.add] using World.cell?_spot (hr 0 (by omega)).1
    subst hsp
    rw [Addr.add_mid] at h1
    refine ⟨b, o, A i, C i, rfl, by rw [hlen]; exact h1, ?_, by rw [hlen]; simp only [maxLen] at h3; omega⟩
    rw [hlen]
    exact sl_of_cells h2 h3 h4 h5 h6 (fun a' ha j hj => (h7 a' ha).2 j hj)
theorem slice_of {H : Type} {enc : TypeId × Value → H} {w : World} {base fuel : Nat} {a : Option Addr} {len cap : Nat} {x : DataW H × List MemPlace} (h : DataW.trod enc Try.prog w base (fun _ => true) true fuel 23 (Value.slice a len cap).cells.toList = some x) :
    ∃ bs, Sl w (.slice a len cap) bs ∧ bs.length = len := by
  rcases ChangeShapes.open_ints Try.underlying23 Try.underlying5 Try.cells5 h with ⟨hcs, _⟩ | ⟨y, l, c, zs, hcs, _, hl, hm, hz, _, hcell, hwz⟩
  · simp [Value.cells] at hcs
    obtain ⟨rfl, rfl, rfl⟩ := hcs
    exact ⟨[], Sl.nil w, rfl⟩
  · simp [Value.cells] at hcs
    obtain ⟨rfl, rfl, rfl⟩ := hcs
    simp at hz
    refine ⟨bytesOfInts (zs.take len), sl_of_cells hl hm (by omega) hwz (fun h => by cases h) (fun a' ha j hj => ?_), by simp [bytesOfInts]; omega⟩
    injection ha with ha
    subst ha
    exact hcell j (by omega)
end Go.Proofs.Ytdddeneppciiiaa
