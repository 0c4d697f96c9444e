/- The walk of RowWidths. -/
import Derived.Test.YtplpchaceiogaaaDoorAwk
import Derived.Test.YtplpchaceiogaaaDoorChk
namespace Go.Proofs.YtplpchaceiogaaaDoor
open Go.RowKit
set_option linter.unusedVariables false
set_option linter.unusedSimpArgs false
set_option maxRecDepth 100000

def xs (n : Nat) : List UInt8 := List.replicate n 120
def xsTo (n k : Nat) : List UInt8 := List.replicate k 120 ++ List.replicate (n - k) 0
theorem xsTo_len (n k : Nat) (h : k ≤ n) : (xsTo n k).length = n := by simp [xsTo]; omega
theorem xsTo_all (n : Nat) : xsTo n n = xs n := by simp [xsTo, xs]
theorem xsTo_set (n k : Nat) (h : k < n) : (xsTo n k).set k 120 = xsTo n (k + 1) := by
  unfold xsTo
  rw [show n - k = (n - (k + 1)) + 1 by omega, List.replicate_succ, List.set_append_right _ _ (by simp)]
  simp [List.replicate_succ']
theorem Tryd.make30 (n : Nat) (hn : n ≤ 2000000) (w : World) : (Instr.makeSlice 30 (.int .i64 (n : Int)) (.int .i64 (n : Int))).run Tryd.prog w = .ok (.slice (some ⟨w.heap.size, 0, none⟩) n n) (w.alloc (.cells (secCells (xsTo n 0)).toArray 5)) := by
  obtain ⟨i, hi, hz⟩ := Option.map_eq_some_iff.1 Tryd.info5
  simp only [Prod.mk.injEq] at hz
  obtain ⟨hz, hs, hb⟩ := hz
  have h := run_make (P := Tryd.prog) w 30 5 i _ Tryd.underlying30 hi hz .i64 .i64 n n (by omega) (by omega) (by rw [hb]; omega) (by omega)
  rw [h, hs, Int.toNat_natCast, Nat.mul_one]
  rw [show (Value.int .u8 0).cells = #[.int .u8 0] from rfl, made_one]
  simp [secCells, xsTo, bcell]
/-- A block of bytes. -/
def Octets (w : World) (g : Nat) (bs : List UInt8) : Prop := w.heap[g]? = some (.cells (secCells bs).toArray 5 (0, 0))
theorem Octets.set {w : World} {g : Nat} {bs : List UInt8} (h : Octets w g bs) (j : Nat) : Octets (w.setCell ⟨g, j, none⟩ (.int .u8 120)) g (bs.set j 120) := by
  unfold Octets
  rw [heap_set_same _ h]
  simp [secCells, List.map_set, bcell]
theorem Octets.cell {w : World} {g : Nat} {bs : List UInt8} (h : Octets w g bs) (j : Nat) (hj : j < bs.length) : ∃ v, w.cell? ⟨g, j, none⟩ = some (.int .u8 v) := by
  rw [cell_row h]
  exact ⟨_, by simp [secCells, bcell, hj]; rfl⟩
theorem Octets.sl {w : World} {g n : Nat} {bs : List UInt8} (h : Octets w g bs) (hn : bs.length = n) (hm : n ≤ 2000000) : Sl w (.slice (some ⟨g, 0, none⟩) n n) bs :=
  ⟨_, n, by rw [hn], by omega, by simp only [maxLen]; omega, fun _ => ⟨g, 0, rfl, fun j u hu => by
    rw [Nat.zero_add, cell_row h]
    simpa using hu⟩⟩
def wT (ix : Bool) : Tb := ⟨[116], [⟨[97], 2, false, ix⟩, ⟨[98], 1, true, false⟩], [], 0, []⟩
def wP (g : Nat) : Pl := ⟨some ⟨g, 0, none⟩, 2, none, 0, none, 0⟩
def wL (n : Nat) (nl : Bool) : List Vl := [tV (xs n), if nl then Vl.zero else nV 5]
theorem wT_few (ix : Bool) : (wT ix).Few := ⟨by simp [wT], by simp [wT], by simp [wT]⟩
theorem wL_wf (n : Nat) (nl : Bool) : ∀ V ∈ wL n nl, V.wf := by
  intro V hV
  simp [wL] at hV
  rcases hV with rfl | rfl
  · exact ⟨by simp [tV], by simp [tV]⟩
  · cases nl
    · exact ⟨by decide, by decide⟩
    · exact ⟨by decide, by decide⟩
theorem wL_bulk (n : Nat) (nl : Bool) (hn : n ≤ 700) : bulk (wL n nl) ≤ 400000000 := by
  cases nl <;> simp [bulk, wL, tV, nV, Vl.zero, xs] <;> omega
theorem esc_xs : ∀ n, esc (xs n) = xs n
  | 0 => rfl
  | n + 1 => by
    have e : xs (n + 1) = 120 :: xs n := rfl
    rw [e, esc_cons, esc_xs n]
    rfl
theorem wL_size (n : Nat) : (joinL (wL n false)).length = n + 12 ∧ (joinL (wL n true)).length = n + 4 := by
  have e1 : enc (tV (xs n)) = 2 :: (xs n ++ [0, 0]) := by
    have : enc (tV (xs n)) = 2 :: (esc (xs n) ++ [0, 0]) := rfl
    rw [this, esc_xs]
  have e2 : (enc (nV 5)).length = 9 := by decide
  have e3 : (enc Vl.zero).length = 1 := by decide
  constructor
  · have : joinL (wL n false) = enc (tV (xs n)) ++ enc (nV 5) := by simp [joinL, wL]
    rw [this, List.length_append, e1, e2]
    simp [xs]
  · have : joinL (wL n true) = enc (tV (xs n)) ++ enc Vl.zero := by simp [joinL, wL]
    rw [this, List.length_append, e1, e3]
    simp [xs]
theorem wL_code (n : Nat) : codE (wL n false) = (if n ≤ 468 then 0 else 170) ∧ codE (wL n true) = (if n ≤ 476 then 0 else 170) := by
  unfold codE
  rw [(wL_size n).1, (wL_size n).2]
  constructor
  · by_cases h : n ≤ 468 <;> simp [h]
  · by_cases h : n ≤ 476 <;> simp [h]
theorem wfit0 (n : Nat) (ix nl : Bool) : fitAt (wT ix) (wL n nl) 0 = if ix = true ∧ 40 < n then 170 else 0 := by
  have e1 : (wT ix).cols.getD 0 Cl.zero = ⟨[97], 2, false, ix⟩ := rfl
  have e2 : hasAt (wT ix) 0 = ix := by simp [hasAt, wT]
  have e3 : (wL n nl).getD 0 Vl.zero = tV (xs n) := rfl
  unfold fitAt
  rw [e1, e2, e3]
  cases ix <;> by_cases h : 40 < n <;> simp [fitE, tV, xs, h]
theorem wfit1 (n : Nat) (ix nl : Bool) : fitAt (wT ix) (wL n nl) 1 = if nl = true then 163 else 0 := by
  have e1 : (wT ix).cols.getD 1 Cl.zero = ⟨[98], 1, true, false⟩ := rfl
  have e3 : (wL n nl).getD 1 Vl.zero = if nl then Vl.zero else nV 5 := rfl
  unfold fitAt
  rw [e1, e3]
  cases nl <;> simp [fitE, Vl.zero, nV]
theorem wchk (n : Nat) (ix nl : Bool) {x : Int} (h : CheckIs (wT ix) (wL n nl) x) : x = if ix = true ∧ 40 < n then 170 else if nl = true then 163 else codE (wL n nl) := by
  refine h.det ?_
  have h0 := wfit0 n ix nl
  have h1 := wfit1 n ix nl
  right
  refine ⟨rfl, ?_⟩
  by_cases c0 : ix = true ∧ 40 < n
  · rw [if_pos c0] at h0 ⊢
    exact .inl ⟨0, by simp [wL], fun j hj => by omega, h0, by decide⟩
  · rw [if_neg c0] at h0 ⊢
    by_cases c1 : nl = true
    · rw [if_pos c1] at h1 ⊢
      refine .inl ⟨1, by simp [wL], fun j hj => ?_, h1, by decide⟩
      have : j = 0 := by omega
      rw [this]; exact h0
    · rw [if_neg c1] at h1 ⊢
      refine .inr ⟨fun j hj => ?_, rfl⟩
      have hj : j < 2 := hj
      rcases (by omega : j = 0 ∨ j = 1) with e | e
      · rw [e]; exact h0
      · rw [e]; exact h1
theorem wchk1 (n : Nat) (ix nl : Bool) {x : Int} (h : CheckIs (wT ix) ((wL n nl).take 1) x) : x = 160 := by
  refine h.det (.inl ⟨?_, rfl⟩)
  simp [wL, wT]
theorem below_setRow' {B b : Nat} {w w' : World} (h : Below B w w') (hb : B ≤ b) (C : Array Value) : Below B w (w'.setRow b C) :=
  ⟨h.os, h.tape, h.output, by have := h.size; simpa [World.setRow] using this, fun k hk => by
    have e : (w'.setRow b C).heap[k]? = w'.heap[k]? := by
      have : b ≠ k := by omega
      simp [World.setRow, Array.getElem?_modify, this]
    exact e.trans (h.block k hk)⟩
theorem store_second {W4 : World} {gl : Nat} {S : ByteArray} (h : W4.heap[gl]? = some (.cells #[.int .i64 2, .int .i64 0, .string S, .bool false, .int .i64 1, .int .i64 5, .string { data := #[] }, .bool false] 32 (0, 0))) :
    ∃ W5, (Instr.storeAt 32 (.pointer (some ⟨gl, 4, none⟩)) (.agg [Value.int .i64 0, Value.int .i64 0, Value.string { data := #[] }, Value.bool false].toArray)).run Tryd.prog W4 = .ok () W5 ∧
      W5.heap[gl]? = some (.cells #[.int .i64 2, .int .i64 0, .string S, .bool false, .int .i64 0, .int .i64 0, .string { data := #[] }, .bool false] 32 (0, 0)) ∧ ∀ B w, Below B w W4 → B ≤ gl → Below B w W5 := by
  have hr := run_storeAt_in (P := Tryd.prog) W4 gl 4 32 32 _ [Value.int .i64 0, Value.int .i64 0, Value.string { data := #[] }, Value.bool false] h (by simp) Tryd.size32 (by intro v hv; simp at hv; rcases hv with rfl | rfl | rfl <;> rfl)
  refine ⟨_, hr, ?_, fun B w hB hb => below_setRow' hB hb _⟩
  simp [World.setRow, Array.getElem?_modify, h]
structure RwS (q g gl : Nat) (ix nl : Bool) (n : Nat) (m : Int) (W : World) : Prop where
  tb : TBox W q (wT ix) (wP g)
  tbl : TbAt W (wT ix) (wP g)
  vl : VsAt W (.slice (some ⟨gl, 0, none⟩) (wL n nl).length 2) (wL n nl)
  z : W.cell? ⟨0, 0, none⟩ = some (.int .i64 m)
theorem RwS.belowW {q g gl : Nat} {ix nl : Bool} {n : Nat} {m : Int} {w w' : World} (h : RwS q g gl ix nl n m w) (hb : Below w.heap.size w w') : RwS q g gl ix nl n m w' := ⟨h.tb.belowW hb, h.tbl.belowW hb, h.vl.belowW hb, cell_belowW h.z hb⟩
theorem vl_new (w : World) (n : Nat) : VsAt (w.alloc (.cells #[.int .i64 2, .int .i64 0, .string (strOf (xs n)), .bool false, .int .i64 1, .int .i64 5, .string { data := #[] }, .bool false] 32)) (.slice (some ⟨w.heap.size, 0, none⟩) (wL n false).length 2) (wL n false) :=
  ⟨_, 2, rfl, Nat.le_refl _, by simp only [maxLen]; omega, fun _ => ⟨w.heap.size, 0, rfl, fun j u hu => by
    rw [Nat.zero_add, cell_row (heap_alloc_new w _)]
    show (vsCells (wL n false)).toArray[j]? = some u
    simpa using hu⟩⟩
theorem vl_set {w : World} {g n : Nat} (h : w.heap[g]? = some (.cells #[.int .i64 2, .int .i64 0, .string (strOf (xs n)), .bool false, .int .i64 0, .int .i64 0, .string { data := #[] }, .bool false] 32 (0, 0))) : VsAt w (.slice (some ⟨g, 0, none⟩) (wL n true).length 2) (wL n true) :=
  ⟨_, 2, rfl, Nat.le_refl _, by simp only [maxLen]; omega, fun _ => ⟨g, 0, rfl, fun j u hu => by
    rw [Nat.zero_add, cell_row h]
    show (vsCells (wL n true)).toArray[j]? = some u
    simpa using hu⟩⟩
end Go.Proofs.YtplpchaceiogaaaDoor
