/- A part of it: EPure EMem. -/
import Derived.WalkKit
import Derived.Test.YteeembildppgmaaGreatRows
import Derived.WalkSpells
import Derived.WalkLawsBesides
import Derived.Deep.MidRow
import Derived.Deep.OwnRows
import Derived.Deep.AppendSrc
import Derived.ArgAppend
import Derived.Below
import Derived.Laws.BytesString
namespace Go.Proofs.YteeembildppgmaaGreat.Enc
open Go.RowKit
set_option linter.unusedVariables false
set_option linter.unusedSimpArgs false
theorem hide {p : Prop} (h : p) : Hid p := h
def beval (bs : List UInt8) : Nat := bs.foldl (fun v c => v * 256 + c.toNat) 0
theorem beval_snoc (bs : List UInt8) (c : UInt8) : beval (bs ++ [c]) = beval bs * 256 + c.toNat := by simp [beval]
theorem befold_lt : ∀ (bs : List UInt8) (v : Nat), bs.foldl (fun v c => v * 256 + c.toNat) v < (v + 1) * 256 ^ bs.length
  | [], v => by simp
  | c :: r, v => by
    rw [List.foldl_cons, List.length_cons, Nat.pow_succ]
    refine Nat.lt_of_lt_of_le (befold_lt r _) ?_
    have := c.toNat_lt
    calc (v * 256 + c.toNat + 1) * 256 ^ r.length ≤ ((v + 1) * 256) * 256 ^ r.length := Nat.mul_le_mul_right _ (by omega)
      _ = (v + 1) * (256 ^ r.length * 256) := by rw [Nat.mul_assoc, Nat.mul_comm 256]
theorem beval_lt (bs : List UInt8) : beval bs < 256 ^ bs.length := by
  have := befold_lt bs 0
  simpa [beval] using this
def be8 (v : Nat) : List UInt8 := (List.range 8).map fun i => UInt8.ofNat (v / 256 ^ (7 - i) % 256)
theorem length_be8 (v : Nat) : (be8 v).length = 8 := by simp [be8]
theorem be8_get (v k : Nat) (h : k < 8) : (be8 v)[k]'(by rw [length_be8]; exact h) = UInt8.ofNat (v / 256 ^ (7 - k) % 256) := by simp [be8]
theorem beval_be8_take (v : Nat) (hv : v < 18446744073709551616) : ∀ k, k ≤ 8 → beval ((be8 v).take k) = v / 256 ^ (8 - k)
  | 0, _ => by simp [beval]; omega
  | k + 1, h => by
    rw [List.take_succ_eq_append_getElem (by rw [length_be8]; omega), beval_snoc, beval_be8_take v hv k (by omega), be8_get v k (by omega), UInt8.toNat_ofNat', Nat.mod_mod]
    have e : 256 ^ (8 - k) = 256 ^ (7 - k) * 256 := by rw [← Nat.pow_succ]; congr 1; omega
    rw [e, ← Nat.div_div_eq_div_mul, show 8 - (k + 1) = 7 - k by omega]
    omega
theorem beval_be8 (v : Nat) (hv : v < 18446744073709551616) : beval (be8 v) = v := by
  have := beval_be8_take v hv 8 (Nat.le_refl _)
  rw [List.take_of_length_le (by rw [length_be8]; exact Nat.le_refl _)] at this
  simpa using this
def num (x : Int) : List UInt8 := be8 x.toNat
theorem length_num (x : Int) : (num x).length = 8 := length_be8 _

structure Rc where
  kind : Int
  txn : Int
  prev : Int
  next : Int
  page : Int
  off : Int
  before : List UInt8
  after : List UInt8
  txns : List (Int × Int × Int)
  dirty : List (Int × Int)
  count : Int
def Rc.zero : Rc := ⟨0, 0, 0, 0, 0, 0, [], [], [], [], 0⟩
def encNums (l : List Int) : List UInt8 := l.flatMap num
theorem length_encNums : ∀ l : List Int, (encNums l).length = 8 * l.length
  | [] => rfl
  | x :: r => by
    have := length_encNums r
    simp only [encNums, List.flatMap_cons, List.length_append, length_num, List.length_cons] at this ⊢
    omega
def encTx (t : Int × Int × Int) : List UInt8 := encNums [t.1, t.2.1, t.2.2]
def encDt (t : Int × Int) : List UInt8 := encNums [t.1, t.2]
def encTxs (l : List (Int × Int × Int)) : List UInt8 := l.flatMap encTx
def encDts (l : List (Int × Int)) : List UInt8 := l.flatMap encDt
theorem length_encTxs : ∀ l, (encTxs l).length = 24 * l.length
  | [] => rfl
  | x :: r => by
    have := length_encTxs r
    simp only [encTxs, encTx, List.flatMap_cons, List.length_append, length_encNums, List.length_cons, List.length_nil] at this ⊢
    omega
theorem length_encDts : ∀ l, (encDts l).length = 16 * l.length
  | [] => rfl
  | x :: r => by
    have := length_encDts r
    simp only [encDts, encDt, List.flatMap_cons, List.length_append, length_encNums, List.length_cons, List.length_nil] at this ⊢
    omega
def Rc.head (R : Rc) : List Int := [R.kind, R.txn, R.prev, R.next, R.page, R.off]
def encBytes (b : List UInt8) : List UInt8 := num b.length ++ b
def Rc.body (R : Rc) : List UInt8 :=
  encNums R.head ++ (encBytes R.before ++ (encBytes R.after ++ (num R.txns.length ++ (encTxs R.txns ++ (num R.dirty.length ++ (encDts R.dirty ++ num R.count))))))
def Rc.size (R : Rc) : Nat := 96 + R.before.length + R.after.length + 24 * R.txns.length + 16 * R.dirty.length
theorem length_body (R : Rc) : R.body.length = R.size - 8 := by
  simp only [Rc.body, Rc.size, Rc.head, encBytes, List.length_append, length_num, length_encNums, length_encTxs, length_encDts, List.length_cons, List.length_nil]
  omega
def Rc.enc (R : Rc) : List UInt8 := num R.body.length ++ R.body
theorem length_enc (R : Rc) : R.enc.length = R.size := by
  rw [Rc.enc, List.length_append, length_num, length_body]
  simp only [Rc.size]
  omega

def getNum (r : List UInt8) : Option (Int × List UInt8) :=
  if r.length < 8 then none else if 4611686018427387904 < beval (r.take 8) then none else some (((beval (r.take 8) : Nat) : Int), r.drop 8)
def getPiece (r : List UInt8) : Option (List UInt8 × List UInt8) :=
  match getNum r with
  | none => none
  | some (n, r') => if (r'.length : Int) < n then none else some (r'.take n.toNat, r'.drop n.toNat)
def getNums : Nat → List UInt8 → Option (List Int × List UInt8)
  | 0, r => some ([], r)
  | k + 1, r => match getNum r with
    | none => none
    | some (n, r') => match getNums k r' with
      | none => none
      | some (l, r'') => some (n :: l, r'')
def getTx (r : List UInt8) : Option ((Int × Int × Int) × List UInt8) :=
  match getNums 3 r with
  | some ([a, b, c], r') => some ((a, b, c), r')
  | _ => none
def getDt (r : List UInt8) : Option ((Int × Int) × List UInt8) :=
  match getNums 2 r with
  | some ([a, b], r') => some ((a, b), r')
  | _ => none
def getMany {α : Type} (f : List UInt8 → Option (α × List UInt8)) : Nat → List UInt8 → Option (List α × List UInt8)
  | 0, r => some ([], r)
  | k + 1, r => match f r with
    | none => none
    | some (x, r') => match getMany f k r' with
      | none => none
      | some (l, r'') => some (x :: l, r'')
def getList {α : Type} (f : List UInt8 → Option (α × List UInt8)) (r : List UInt8) : Option (List α × List UInt8) :=
  match getNum r with
  | none => none
  | some (n, r') => getMany f n.toNat r'
def atCount (R : Rc) (r : List UInt8) : Option Rc :=
  match getNum r with
  | none => none
  | some (n, r') => if r' = [] then some { R with count := n } else none
def atDirty (R : Rc) (r : List UInt8) : Option Rc :=
  match getList getDt r with
  | none => none
  | some (l, r') => atCount { R with dirty := l } r'
def atTxns (R : Rc) (r : List UInt8) : Option Rc :=
  match getList getTx r with
  | none => none
  | some (l, r') => atDirty { R with txns := l } r'
def atAfter (R : Rc) (r : List UInt8) : Option Rc :=
  match getPiece r with
  | none => none
  | some (p, r') => atTxns { R with after := p } r'
def atBefore (R : Rc) (r : List UInt8) : Option Rc :=
  match getPiece r with
  | none => none
  | some (p, r') => atAfter { R with before := p } r'
def Rc.ofHead : List Int → Rc
  | [a, b, c, d, e, f] => ⟨a, b, c, d, e, f, [], [], [], [], 0⟩
  | _ => Rc.zero
def atHead (r : List UInt8) : Option Rc :=
  match getNums 6 r with
  | none => none
  | some (l, r') => atBefore (Rc.ofHead l) r'
def dec (b : List UInt8) : Option Rc :=
  match getPiece b with
  | none => none
  | some (own, _) => atHead own

theorem getNum_len {r r' : List UInt8} {n : Int} (h : getNum r = some (n, r')) : r.length = 8 + r'.length ∧ 0 ≤ n ∧ n ≤ 4611686018427387904 ∧ r' = r.drop 8 := by
  unfold getNum at h
  split at h
  · cases h
  · split at h
    · cases h
    · simp only [Option.some.injEq, Prod.mk.injEq] at h
      obtain ⟨rfl, rfl⟩ := h
      refine ⟨by rw [List.length_drop]; omega, by omega, by omega, rfl⟩
theorem getNums_len : ∀ (k : Nat) {r r' : List UInt8} {l : List Int}, getNums k r = some (l, r') → r.length = 8 * k + r'.length ∧ l.length = k
  | 0, r, r', l, h => by
    simp only [getNums, Option.some.injEq, Prod.mk.injEq] at h
    obtain ⟨rfl, rfl⟩ := h
    simp
  | k + 1, r, r', l, h => by
    simp only [getNums] at h
    split at h
    · cases h
    · rename_i n r1 h1
      split at h
      · cases h
      · rename_i l2 r2 h2
        simp only [Option.some.injEq, Prod.mk.injEq] at h
        obtain ⟨rfl, rfl⟩ := h
        have e1 := getNum_len h1
        have e2 := getNums_len k h2
        simp only [List.length_cons]
        omega
theorem getTx_len {r r' : List UInt8} {x : Int × Int × Int} (h : getTx r = some (x, r')) : r.length = 24 + r'.length := by
  unfold getTx at h
  split at h
  · rename_i a b c r1 h1
    simp only [Option.some.injEq, Prod.mk.injEq] at h
    obtain ⟨_, rfl⟩ := h
    have := getNums_len 3 h1
    omega
  · cases h
theorem getDt_len {r r' : List UInt8} {x : Int × Int} (h : getDt r = some (x, r')) : r.length = 16 + r'.length := by
  unfold getDt at h
  split at h
  · rename_i a b r1 h1
    simp only [Option.some.injEq, Prod.mk.injEq] at h
    obtain ⟨_, rfl⟩ := h
    have := getNums_len 2 h1
    omega
  · cases h
theorem getMany_len {α : Type} {f : List UInt8 → Option (α × List UInt8)} {m : Nat} (hf : ∀ r x r', f r = some (x, r') → r.length = m + r'.length) : ∀ (k : Nat) {r r' : List UInt8} {l : List α}, getMany f k r = some (l, r') → r.length = m * k + r'.length ∧ l.length = k
  | 0, r, r', l, h => by
    simp only [getMany, Option.some.injEq, Prod.mk.injEq] at h
    obtain ⟨rfl, rfl⟩ := h
    simp
  | k + 1, r, r', l, h => by
    simp only [getMany] at h
    split at h
    · cases h
    · rename_i x r1 h1
      split at h
      · cases h
      · rename_i l2 r2 h2
        simp only [Option.some.injEq, Prod.mk.injEq] at h
        obtain ⟨rfl, rfl⟩ := h
        have e1 := hf _ _ _ h1
        have e2 := getMany_len hf k h2
        rw [List.length_cons, Nat.mul_add]
        omega
theorem getList_len {α : Type} {f : List UInt8 → Option (α × List UInt8)} {m : Nat} (hf : ∀ r x r', f r = some (x, r') → r.length = m + r'.length) {r r' : List UInt8} {l : List α} (h : getList f r = some (l, r')) : r.length = 8 + m * l.length + r'.length := by
  unfold getList at h
  split at h
  · cases h
  · rename_i n r1 h1
    have e1 := getNum_len h1
    have e2 := getMany_len hf _ h
    rw [e2.2]
    omega
theorem getPiece_len {r r' p : List UInt8} (h : getPiece r = some (p, r')) : r.length = 8 + p.length + r'.length := by
  unfold getPiece at h
  split at h
  · cases h
  · rename_i n r1 h1
    have e1 := getNum_len h1
    split at h
    · cases h
    · simp only [Option.some.injEq, Prod.mk.injEq] at h
      obtain ⟨rfl, rfl⟩ := h
      simp only [List.length_take, List.length_drop]
      omega
theorem dec_size {b : List UInt8} {R : Rc} (h : dec b = some R) : ∃ own r, getPiece b = some (own, r) ∧ 8 + own.length = R.size := by
  unfold dec at h
  split at h
  · cases h
  · rename_i own r0 h0
    refine ⟨own, r0, h0, ?_⟩
    unfold atHead at h
    split at h
    · cases h
    · rename_i l r1 h1
      have e1 := getNums_len 6 h1
      have ez : (Rc.ofHead l).before = [] ∧ (Rc.ofHead l).after = [] := by
        unfold Rc.ofHead; split <;> exact ⟨rfl, rfl⟩
      unfold atBefore at h
      split at h
      · cases h
      · rename_i p2 r2 h2
        have e2 := getPiece_len h2
        unfold atAfter at h
        split at h
        · cases h
        · rename_i p3 r3 h3
          have e3 := getPiece_len h3
          unfold atTxns at h
          split at h
          · cases h
          · rename_i p4 r4 h4
            have e4 := getList_len (fun _ _ _ => getTx_len) h4
            unfold atDirty at h
            split at h
            · cases h
            · rename_i p5 r5 h5
              have e5 := getList_len (fun _ _ _ => getDt_len) h5
              unfold atCount at h
              split at h
              · cases h
              · rename_i n r6 h6
                have e6 := getNum_len h6
                split at h
                · rename_i h7
                  rw [h7] at e6
                  simp only [Option.some.injEq] at h
                  subst h
                  simp only [Rc.size, List.length_nil] at e6 ⊢
                  omega
                · cases h
theorem dec_le {b : List UInt8} {R : Rc} (h : dec b = some R) : R.size ≤ b.length := by
  obtain ⟨own, r, h1, h2⟩ := dec_size h
  have := getPiece_len h1
  omega

def fits (x : Int) : Prop := 0 ≤ x ∧ x ≤ 4611686018427387904
theorem getNum_num (x : Int) (h : fits x) (r : List UInt8) : getNum (num x ++ r) = some (x, r) := by
  have h8 : (num x ++ r).take 8 = num x := by rw [List.take_append_of_le_length (by rw [length_num]; exact Nat.le_refl _), List.take_of_length_le (by rw [length_num]; exact Nat.le_refl _)]
  have hd : (num x ++ r).drop 8 = r := by rw [List.drop_append_of_le_length (by rw [length_num]; exact Nat.le_refl _), List.drop_of_length_le (by rw [length_num]; exact Nat.le_refl _), List.nil_append]
  have hb : beval (num x) = x.toNat := beval_be8 _ (by have := h.2; omega)
  unfold getNum
  rw [h8, hd, hb, if_neg (by rw [List.length_append, length_num]; omega), if_neg (by have := h.2; omega)]
  congr 2
  have := h.1
  omega
theorem getNums_enc : ∀ (l : List Int), (∀ x ∈ l, fits x) → ∀ r, getNums l.length (encNums l ++ r) = some (l, r)
  | [], _, r => rfl
  | x :: l, h, r => by
    have ih := getNums_enc l (fun y hy => h y (List.mem_cons_of_mem _ hy)) r
    have e : encNums (x :: l) ++ r = num x ++ (encNums l ++ r) := by simp [encNums]
    rw [List.length_cons, e]
    simp only [getNums, getNum_num x (h x (by simp)), ih]
theorem getTx_enc (t : Int × Int × Int) (h : fits t.1 ∧ fits t.2.1 ∧ fits t.2.2) (r : List UInt8) : getTx (encTx t ++ r) = some (t, r) := by
  have := getNums_enc [t.1, t.2.1, t.2.2] (fun x hx => by simp at hx; rcases hx with rfl | rfl | rfl; exact h.1; exact h.2.1; exact h.2.2) r
  simp only [List.length_cons, List.length_nil] at this
  unfold getTx encTx
  rw [this]
theorem getDt_enc (t : Int × Int) (h : fits t.1 ∧ fits t.2) (r : List UInt8) : getDt (encDt t ++ r) = some (t, r) := by
  have := getNums_enc [t.1, t.2] (fun x hx => by simp at hx; rcases hx with rfl | rfl; exact h.1; exact h.2) r
  simp only [List.length_cons, List.length_nil] at this
  unfold getDt encDt
  rw [this]
theorem getMany_enc {α : Type} {f : List UInt8 → Option (α × List UInt8)} {g : α → List UInt8} {p : α → Prop} (hf : ∀ x, p x → ∀ r, f (g x ++ r) = some (x, r)) : ∀ (l : List α), (∀ x ∈ l, p x) → ∀ r, getMany f l.length (l.flatMap g ++ r) = some (l, r)
  | [], _, r => rfl
  | x :: l, h, r => by
    have ih := getMany_enc hf l (fun y hy => h y (List.mem_cons_of_mem _ hy)) r
    have e : (x :: l).flatMap g ++ r = g x ++ (l.flatMap g ++ r) := by simp
    rw [List.length_cons, e]
    simp only [getMany, hf x (h x (by simp)), ih]
theorem getList_enc {α : Type} {f : List UInt8 → Option (α × List UInt8)} {g : α → List UInt8} {p : α → Prop} (hf : ∀ x, p x → ∀ r, f (g x ++ r) = some (x, r)) (l : List α) (hp : ∀ x ∈ l, p x) (hl : l.length ≤ 4611686018427387904) (r : List UInt8) :
    getList f (num l.length ++ (l.flatMap g ++ r)) = some (l, r) := by
  unfold getList
  rw [getNum_num _ ⟨by omega, by omega⟩]
  simp only [Int.toNat_natCast]
  exact getMany_enc hf l hp r
theorem getPiece_enc (p : List UInt8) (hl : p.length ≤ 4611686018427387904) (r : List UInt8) : getPiece (encBytes p ++ r) = some (p, r) := by
  unfold getPiece encBytes
  rw [List.append_assoc, getNum_num _ ⟨by omega, by omega⟩]
  simp only [List.length_append, Int.toNat_natCast]
  rw [if_neg (by omega), List.take_append_of_le_length (Nat.le_refl _), List.take_of_length_le (Nat.le_refl _), List.drop_append_of_le_length (Nat.le_refl _), List.drop_of_length_le (Nat.le_refl _), List.nil_append]
structure Rc.good (R : Rc) : Prop where
  head : ∀ x ∈ R.head, fits x
  txns : ∀ t ∈ R.txns, fits t.1 ∧ fits t.2.1 ∧ fits t.2.2
  dirty : ∀ t ∈ R.dirty, fits t.1 ∧ fits t.2
  count : fits R.count
theorem dec_enc (R : Rc) (h : R.good) (hs : R.size ≤ 4611686018427387904) (more : List UInt8) : dec (R.enc ++ more) = some R := by
  have hs' : 96 + R.before.length + R.after.length + 24 * R.txns.length + 16 * R.dirty.length ≤ 4611686018427387904 := hs
  unfold dec
  have e0 : R.enc = encBytes R.body := rfl
  rw [e0, getPiece_enc _ (by rw [length_body]; omega)]
  simp only [atHead, Rc.body]
  have e1 := getNums_enc R.head h.head
  simp only [Rc.head, List.length_cons, List.length_nil] at e1
  simp only [Rc.head, e1, Rc.ofHead, atBefore]
  rw [getPiece_enc _ (by omega)]
  simp only [atAfter]
  rw [getPiece_enc _ (by omega)]
  simp only [atTxns, encTxs]
  rw [getList_enc (p := fun t => fits t.1 ∧ fits t.2.1 ∧ fits t.2.2) getTx_enc _ h.txns (by omega)]
  simp only [atDirty, encDts]
  rw [getList_enc (p := fun t => fits t.1 ∧ fits t.2) getDt_enc _ h.dirty (by omega)]
  simp only [atCount]
  have e6 := getNum_num R.count h.count []
  rw [List.append_nil] at e6
  simp only [e6, if_true]
end Go.Proofs.YteeembildppgmaaGreat.Enc
namespace Go.Proofs.YteeembildppgmaaGreat.Enc
open Go.RowKit
set_option linter.unusedVariables false
set_option linter.unusedSimpArgs false
def bcell (b : UInt8) : Value := .int .u8 (b.toNat : Int)
def icell (x : Int) : Value := .int .i64 x
def secCells (s : List UInt8) : List Value := s.map bcell
def intCells (l : List Int) : List Value := l.map icell
def txCells (l : List (Int × Int × Int)) : List Value := l.flatMap fun t => [icell t.1, icell t.2.1, icell t.2.2]
def dtCells (l : List (Int × Int)) : List Value := l.flatMap fun t => [icell t.1, icell t.2]
theorem length_secCells (s : List UInt8) : (secCells s).length = s.length := by simp [secCells]
theorem length_txCells : ∀ l, (txCells l).length = l.length * 3
  | [] => rfl
  | x :: r => by have := length_txCells r; simp only [txCells, List.flatMap_cons, List.length_append, List.length_cons, List.length_nil] at this ⊢; omega
theorem length_dtCells : ∀ l, (dtCells l).length = l.length * 2
  | [] => rfl
  | x :: r => by have := length_dtCells r; simp only [dtCells, List.flatMap_cons, List.length_append, List.length_cons, List.length_nil] at this ⊢; omega
theorem one_secCells (s : List UInt8) : ∀ v ∈ secCells s, v.oneCell' = true := by
  intro v hv
  obtain ⟨b, _, rfl⟩ := List.mem_map.1 hv
  rfl
theorem secCells_append (a b : List UInt8) : secCells (a ++ b) = secCells a ++ secCells b := by simp [secCells]
theorem secCells_get (bs : List UInt8) (k : Nat) (h : k < bs.length) : (secCells bs)[k]? = some (.int .u8 (bs[k].toNat : Int)) := by simp [secCells, bcell, h]

theorem cell_row {w : World} {b o : Nat} {C : Array Value} {t : TypeId} {fr : Nat × Nat} (h : w.heap[b]? = some (.cells C t fr)) : w.cell? ⟨b, o, none⟩ = C[o]? := by simp [World.cell?, h]

def Row (w : World) (v : Value) (n : Nat) (xs : List Value) : Prop :=
  ∃ ao c, v = .slice ao n c ∧ n ≤ c ∧ c ≤ maxLen ∧ (xs ≠ [] → ∃ g o, ao = some ⟨g, o, none⟩ ∧ w.rangeAt g o xs)
theorem Row.nil (w : World) : Row w (.slice none 0 0) 0 [] := ⟨none, 0, rfl, Nat.le_refl _, Nat.zero_le _, fun h => absurd rfl h⟩
theorem rangeAt_below {B : Nat} {w w' : World} {g o : Nat} {xs : List Value} (h : w.rangeAt g o xs) (hb : Below B w w') (hB : w.heap.size ≤ B) : w'.rangeAt g o xs := fun j u hu => by
  have h1 := h j u hu
  exact (hb.cell (p := ⟨g, o + j, none⟩) (Nat.lt_of_lt_of_le (World.block_lt_of_cell? w _ h1) hB)).trans h1
theorem Row.below {B : Nat} {w w' : World} {v : Value} {n : Nat} {xs : List Value} (h : Row w v n xs) (hb : Below B w w') (hB : w.heap.size ≤ B) : Row w' v n xs := by
  obtain ⟨ao, c, rfl, h1, h2, h3⟩ := h
  exact ⟨ao, c, rfl, h1, h2, fun hx => let ⟨g, o, e, hr⟩ := h3 hx; ⟨g, o, e, rangeAt_below hr hb hB⟩⟩
theorem Row.belowW {w w' : World} {v : Value} {n : Nat} {xs : List Value} (h : Row w v n xs) (hb : Below w.heap.size w w') : Row w' v n xs := h.below hb (Nat.le_refl _)
theorem Row.of_owns {w : World} {base : Nat} {e : TypeId} {size : Nat} {v : Value} {n : Nat} {xs : List Value} (h : w.ownsRow base e size v n xs) : Row w v n xs := by
  rcases h.2 with ⟨rfl, rfl⟩ | ⟨g, cap, cur, rfl, _, hg, h1, h2, h3, h4⟩
  · have : xs = [] := List.eq_nil_of_length_eq_zero (by simpa using h.1)
    subst this
    exact Row.nil w
  · refine ⟨_, _, rfl, h1, h2, fun _ => ⟨g, 0, rfl, fun j u hu => ?_⟩⟩
    rw [Nat.zero_add, cell_row hg]
    rw [← h4] at hu
    have hj := (List.getElem?_eq_some_iff.1 hu).1
    rw [List.length_take] at hj
    rw [List.getElem?_take_of_lt (by omega)] at hu
    simpa using hu

structure Off (fp : List Nat) (w w' : World) : Prop where
  os : w'.os = w.os
  tape : w'.tape = w.tape
  output : w'.output = w.output
  size : w.heap.size ≤ w'.heap.size
  block : ∀ k, k < w.heap.size → k ∉ fp → w'.heap[k]? = w.heap[k]?
theorem Off.refl (fp : List Nat) (w : World) : Off fp w w := ⟨rfl, rfl, rfl, Nat.le_refl _, fun _ _ _ => rfl⟩
theorem Off.trans {fp fp' : List Nat} {a b c : World} (h : Off fp a b) (k : Off fp' b c) (hfp : ∀ i ∈ fp', i ∈ fp ∨ a.heap.size ≤ i) : Off fp a c :=
  ⟨k.os.trans h.os, k.tape.trans h.tape, k.output.trans h.output, Nat.le_trans h.size k.size, fun i hi hn =>
    (k.block i (Nat.lt_of_lt_of_le hi h.size) (fun hm => by rcases hfp i hm with h1 | h1; exact hn h1; omega)).trans (h.block i hi hn)⟩
theorem Off.mono {fp fp' : List Nat} {a b : World} (h : Off fp a b) (hs : ∀ i ∈ fp, i ∈ fp') : Off fp' a b :=
  ⟨h.os, h.tape, h.output, h.size, fun k hk hn => h.block k hk (fun hm => hn (hs k hm))⟩
theorem Off.below {fp : List Nat} {a b : World} (h : Off fp a b) {B : Nat} (hB : B ≤ a.heap.size) (hf : ∀ k ∈ fp, B ≤ k) : Below B a b :=
  ⟨h.os, h.tape, h.output, h.size, fun k hk => h.block k (by omega) (fun hm => by have := hf k hm; omega)⟩
theorem Off.of_below {a b : World} (h : Below a.heap.size a b) (fp : List Nat) : Off fp a b :=
  ⟨h.os, h.tape, h.output, h.size, fun k hk _ => h.block k hk⟩
theorem Off.alloc {fp : List Nat} {a w : World} (h : Off fp a w) (o : Obj) : Off fp a (w.alloc o) :=
  ⟨h.os, h.tape, h.output, by have := h.size; simp; omega, fun k hk hn => (Below.heap_alloc _ _ _ (Nat.lt_of_lt_of_le hk h.size)).trans (h.block k hk hn)⟩
theorem Off.drew {fp : List Nat} {a w : World} (h : Off fp a w) : Off fp a w.drew := ⟨h.os, h.tape, h.output, h.size, h.block⟩
theorem Off.drewN {fp : List Nat} {a w : World} (h : Off fp a w) (m : Nat) : Off fp a (w.drewN m) := ⟨h.os, h.tape, h.output, h.size, h.block⟩
theorem Off.setCell {fp : List Nat} {a w : World} (h : Off fp a w) (p : Addr) (u : Value) (hp : p.block ∈ fp ∨ a.heap.size ≤ p.block) : Off fp a (w.setCell p u) :=
  ⟨h.os, h.tape, h.output, by have := h.size; simpa [World.setCell] using this, fun k hk hn => (Below.heap_setCell _ _ _ _ (fun e => by subst e; rcases hp with hp | hp; exact hn hp; omega)).trans (h.block k hk hn)⟩
theorem Off.grown {fp : List Nat} {a w w' : World} {row : Option Nat} (h : Off fp a w) (hg : w.grownBy w' row) (hr : ∀ k, row = some k → k ∈ fp ∨ a.heap.size ≤ k) : Off fp a w' :=
  ⟨hg.os.trans h.os, hg.tape.trans h.tape, hg.output.trans h.output, Nat.le_trans h.size hg.size, fun k hk hn =>
    (hg.block k (Nat.lt_of_lt_of_le hk h.size) (fun e => by rcases hr k e.symm with h1 | h1; exact hn h1; omega)).trans (h.block k hk hn)⟩
theorem heap_set_same {w : World} {g o : Nat} {C : Array Value} {t : TypeId} (u : Value) (h : w.heap[g]? = some (.cells C t (0, 0))) : (w.setCell ⟨g, o, none⟩ u).heap[g]? = some (.cells (C.setIfInBounds o u) t (0, 0)) := by
  simp [World.setCell, Array.getElem?_modify, h]
theorem frozen_row {w : World} {g o : Nat} {C : Array Value} {t : TypeId} (h : w.heap[g]? = some (.cells C t (0, 0))) : w.frozen? ⟨g, o, none⟩ = false := by simp [World.frozen?, h]
theorem lt_of_heap {w : World} {g : Nat} {o : Obj} (h : w.heap[g]? = some o) : g < w.heap.size := (Array.getElem?_eq_some_iff.1 h).1
theorem owns_ne {w : World} {base : Nat} {e t : TypeId} {size : Nat} {v : Value} {n q : Nat} {xs : List Value} {C : Array Value} {fr : Nat × Nat} (h : w.ownsRow base e size v n xs) (hq : w.heap[q]? = some (.cells C t fr)) (ht : t ≠ e) : v.ownBlock ≠ some q := by
  rcases h.2 with ⟨rfl, rfl⟩ | ⟨g, cap, cur, rfl, _, hg, h1, h2, h3, h4⟩
  · simp [Value.ownBlock]
  · intro hk
    have : g = q := by simpa [Value.ownBlock] using hk
    subst this
    rw [hg] at hq
    simp at hq
    exact ht hq.2.1.symm
theorem owns_stay {w w' : World} {base : Nat} {e : TypeId} {size : Nat} {v : Value} {n : Nat} {xs : List Value} (h : w.ownsRow base e size v n xs) (hb : ∀ k, v.ownBlock = some k → w'.heap[k]? = w.heap[k]?) : w'.ownsRow base e size v n xs := by
  refine ⟨h.1, ?_⟩
  rcases h.2 with h0 | ⟨g, cap, cur, rfl, h0, hg, h1⟩
  · exact .inl h0
  · exact .inr ⟨g, cap, cur, rfl, h0, (hb g rfl).trans hg, h1⟩
theorem owns_off {fp : List Nat} {w w' : World} {base : Nat} {e : TypeId} {size : Nat} {v : Value} {n : Nat} {xs : List Value} (h : w.ownsRow base e size v n xs) (ho : Off fp w w') (hn : ∀ k ∈ fp, v.ownBlock ≠ some k) : w'.ownsRow base e size v n xs :=
  owns_stay h fun k hk => ho.block k (h.lt k hk).2 (fun hm => hn k hm hk)
theorem owns_below {B : Nat} {w w' : World} {base : Nat} {e : TypeId} {size : Nat} {v : Value} {n : Nat} {xs : List Value} (h : w.ownsRow base e size v n xs) (hb : Below B w w') (hB : w.heap.size ≤ B) : w'.ownsRow base e size v n xs :=
  owns_stay h fun k hk => hb.block k (Nat.lt_of_lt_of_le (h.lt k hk).2 hB)
theorem owns_mono {w : World} {base base' : Nat} {e : TypeId} {size : Nat} {v : Value} {n : Nat} {xs : List Value} (h : w.ownsRow base e size v n xs) (hb : base' ≤ base) : w.ownsRow base' e size v n xs := by
  refine ⟨h.1, ?_⟩
  rcases h.2 with h0 | ⟨g, cap, cur, rfl, h0, hg⟩
  · exact .inl h0
  · exact .inr ⟨g, cap, cur, rfl, Nat.le_trans hb h0, hg⟩
theorem owns_len {w : World} {base : Nat} {e : TypeId} {size : Nat} {v : Value} {n : Nat} {xs : List Value} (h : w.ownsRow base e size v n xs) : ∃ ao c, v = .slice ao n c := by
  rcases h.2 with ⟨rfl, rfl⟩ | ⟨g, cap, cur, rfl, _⟩
  · exact ⟨_, _, rfl⟩
  · exact ⟨_, _, rfl⟩

theorem run_append_nothing {P : Program} (w : World) (t ty e : TypeId) (i : TypeInfo) (ht : P.underlying t = some (.slice e)) (hi : P.info? e = some i) (x : Value) (hs : Src P i.size t x 0 [] w) :
    (Builtin.append_ #[t, t] ty #[.slice none 0 0, x]).run P w = .ok (.slice none 0 0) w := by
  simp [Builtin.append_, run_underlying ht, sizeOf, typeInfo, hi, hs.len, hs.cells]
theorem setCells_nil (w : World) (b o : Nat) : w.setCells b o [] = w := rfl
theorem run_append_row {P : Program} (w : World) (base : Nat) (t ty e : TypeId) (z : Value) (size bytes : Nat) (ht : P.underlying t = some (.slice e)) (hinfo : (P.info? e).map (fun i => (i.zero, i.size, i.bytes)) = some (some z, size, bytes))
    (hzs : z.cells.size = size) (hsz : 0 < size) (v : Value) (n : Nat) (xs : List Value) (hown : w.ownsRow base e size v n xs)
    (x : Value) (m : Nat) (news : List Value) (hx : Row w x m news) (hl : news.length = m * size) (h1 : ∀ u ∈ news, u.oneCell' = true)
    (hbytes : (n + m) * bytes ≤ 140737488355328) (h63 : n + m ≤ 140737488355328) (hbase : base ≤ w.heap.size) :
    ∃ v' w', (Builtin.append_ #[t, t] ty #[v, x]).run P w = .ok v' w' ∧ w'.ownsRow base e size v' (n + m) (xs ++ news) ∧ w.grownBy w' v.ownBlock := by
  obtain ⟨i, hi, hz⟩ := Option.map_eq_some_iff.1 hinfo
  simp only [Prod.mk.injEq] at hz
  obtain ⟨hz, hsize, hby⟩ := hz
  have hmax : n + m ≤ maxLen := by simp only [maxLen]; omega
  obtain ⟨ao, c, rfl, c1, c2, hr⟩ := hx
  cases ao with
  | some a =>
    obtain ⟨v', w', h1, h2, h3, _⟩ := run_append_own (P := P) w base t ty e i z size bytes ht hi hz hsize hby hzs hsz v n xs hown a m c news hl (fun j u hu => by
      obtain ⟨g, o, e, hrg⟩ := hr (fun h0 => by rw [h0] at hu; simp at hu)
      injection e with e
      subst e
      rw [Addr.add_mid]
      exact hrg j u hu) h1 hmax hbytes hbase
    exact ⟨v', w', h1, h2, h3⟩
  | none =>
    have hn : news = [] := by
      refine Classical.byContradiction fun hne => ?_
      obtain ⟨g, o, e, _⟩ := hr hne
      cases e
    subst hn
    have hm : m = 0 := by
      rcases Nat.eq_zero_or_pos m with h | h
      · exact h
      · have := Nat.mul_pos h hsz
        simp at hl
        omega
    subst hm
    have hsrc : Src P i.size t (.slice none 0 c) 0 [] w := Src.ofNil w ht c
    have same : w.grownBy w v.ownBlock := ⟨rfl, rfl, rfl, Nat.le_refl _, fun _ _ _ => rfl⟩
    rcases hown.2 with ⟨rfl, rfl⟩ | ⟨g, cap, cur, rfl, h0, hg, g1, g2, g3, g4⟩
    · exact ⟨_, w, run_append_nothing w t ty e i ht hi _ hsrc, by simpa using hown, same⟩
    · refine ⟨_, _, run_append_room_src (P := P) w t t ty e i ht hi g 0 n cap _ 0 [] hsrc (by omega) (fun j hj => by simp at hj) (fun j hj => by simp at hj), ?_, same⟩
      simpa [setCells_nil] using hown
theorem wpList_append_row {P : Program} {ops : Array Oper} {rest : List Oper} {o : Oper} {a : Act} {w : World} {Q : Exit → Act → World → Prop}
    (hg : o.guard = none) (s x : Operand) (t : TypeId) (hop : o.op = Op.call { callee := Callee.builtin Builtin.append, args := #[s, x], argTypes := #[t, t] })
    (base : Nat) (e : TypeId) (z : Value) (size bytes : Nat) (ht : P.underlying t = some (.slice e)) (hi : (P.info? e).map (fun i => (i.zero, i.size, i.bytes)) = some (some z, size, bytes)) (hzs : z.cells.size = size) (hsz : 0 < size)
    (v : Value) (n : Nat) (xs : List Value) (y : Value) (m : Nat) (news : List Value) (hs : a.eval s = v) (hy : a.eval x = y) (hown : w.ownsRow base e size v n xs)
    (hx : Row w y m news) (hl : news.length = m * size) (h1 : ∀ u ∈ news, u.oneCell' = true)
    (hbytes : (n + m) * bytes ≤ 140737488355328) (h63 : n + m ≤ 140737488355328) (hbase : base ≤ w.heap.size)
    (hK : ∀ v' w', w'.ownsRow base e size v' (n + m) (xs ++ news) → w.grownBy w' v.ownBlock → wpList P ops Q rest (a.put o.dst v') w') :
    wpList P ops Q (o :: rest) a w := by
  refine wpList_plain hg fun K hK' => ?_
  obtain ⟨v', w', hrun, r1, r2⟩ := run_append_row (P := P) w base t o.type e z size bytes ht hi hzs hsz v n xs hown y m news hx hl h1 hbytes h63 hbase
  unfold Oper.wp
  simp [execOp, hop, resolve, invoke, builtin, hs, hy, hrun, Result.andThen]
  exact hK' _ _ (hK v' w' r1 r2)

theorem Tryz.info5 : (Tryz.prog.info? 5).map (fun i => (i.zero, i.size, i.bytes)) = some (some (.int .u8 0), 1, 1) := by kernel_rfl
theorem Tryz.info3 : (Tryz.prog.info? 3).map (fun i => (i.zero, i.size, i.bytes)) = some (some (.int .i64 0), 1, 8) := by kernel_rfl
theorem Tryz.info5' : ∃ i, Tryz.prog.info? 5 = some i ∧ i.zero = some (.int .u8 0) ∧ i.size = 1 ∧ i.bytes = 1 := by
  obtain ⟨i, hi, hz⟩ := Option.map_eq_some_iff.1 Tryz.info5
  simp only [Prod.mk.injEq] at hz
  exact ⟨i, hi, hz.1, hz.2.1, hz.2.2⟩
def cutAt (ao : Option Addr) (c l : Nat) : Option Addr := if c = l then ao else ao.map (·.add l)
theorem run_cut_from (w : World) (ao : Option Addr) (n c l : Nat) (hl : l ≤ n) :
    (Instr.sliceAt 36 (.slice ao n c) (some (.int .i64 (l : Int))) none none).run Tryz.prog w = .ok (.slice (cutAt ao c l) (n - l) (c - l)) w := by
  have hu := Tryz.underlying36
  have h2 : (l : Int) ≤ (n : Int) := by omega
  obtain ⟨i, hi, hz, hsz, hby⟩ := Tryz.info5'
  simp [Instr.sliceAt, Instr.slice, run_underlying hu, Instr.sliceBounds, Instr.sliceBound, asIntOf, h2, sizeOf, typeInfo, hi, hsz, cutAt, Nat.mul_one]
  by_cases e : c = l
  · simp [e]; intro hx; omega
  · simp [e]; intro hx; omega
theorem run_cut_to (w : World) (ao : Option Addr) (n c h : Nat) (hh : h ≤ c) :
    (Instr.sliceAt 36 (.slice ao n c) none (some (.int .i64 (h : Int))) none).run Tryz.prog w = .ok (.slice ao h c) w := by
  have hu := Tryz.underlying36
  have h1 : (h : Int) ≤ (c : Int) := by omega
  obtain ⟨i, hi, hz, hsz, hby⟩ := Tryz.info5'
  simp [Instr.sliceAt, Instr.slice, run_underlying hu, Instr.sliceBounds, Instr.sliceBound, asIntOf, h1, sizeOf, typeInfo, hi, hsz, Nat.mul_one, hh]
  by_cases e : c = 0
  · simp [e]
  · simp [e]
    cases ao with
    | none => rfl
    | some a => obtain ⟨g, o, s⟩ := a; cases s <;> simp [Addr.add]
def Sl (w : World) (v : Value) (bs : List UInt8) : Prop := Row w v bs.length (secCells bs)
theorem Sl.to {w : World} {ao : Option Addr} {n c : Nat} {bs : List UInt8} (h : Sl w (.slice ao n c) bs) (k : Nat) (hk : k ≤ bs.length) : Sl w (.slice ao k c) (bs.take k) := by
  obtain ⟨ao', c', e, h1, h2, h3⟩ := h
  injection e with e1 e2 e3
  subst e1 e2 e3
  have hlen : (bs.take k).length = k := by rw [List.length_take]; omega
  refine ⟨ao, c, by rw [hlen], by omega, h2, fun hx => ?_⟩
  obtain ⟨g, o, ea, hr⟩ := h3 (fun h0 => hx (by
    have : bs = [] := List.map_eq_nil_iff.1 h0
    rw [this]; simp [secCells]))
  refine ⟨g, o, ea, fun j u hu => hr j u ?_⟩
  have he : secCells (bs.take k) = (secCells bs).take k := by simp [secCells]
  rw [he, List.getElem?_take] at hu
  split at hu
  · exact hu
  · simp at hu
theorem Sl.from {w : World} {ao : Option Addr} {n c : Nat} {bs : List UInt8} (h : Sl w (.slice ao n c) bs) (l : Nat) (hl : l ≤ bs.length) : Sl w (.slice (cutAt ao c l) (bs.length - l) (c - l)) (bs.drop l) := by
  obtain ⟨ao', c', e, h1, h2, h3⟩ := h
  injection e with e1 e2 e3
  subst e1 e2 e3
  have hlen : (bs.drop l).length = bs.length - l := by rw [List.length_drop]
  refine ⟨_, c - l, by rw [hlen], by omega, by omega, fun hx => ?_⟩
  have hne : bs.drop l ≠ [] := fun h0 => hx (by rw [h0]; rfl)
  have hlt : l < bs.length := by
    rcases Nat.lt_or_ge l bs.length with h | h
    · exact h
    · exact absurd (List.drop_of_length_le h) hne
  obtain ⟨g, o, ea, hr⟩ := h3 (fun h0 => by
    have : bs = [] := List.map_eq_nil_iff.1 h0
    rw [this] at hlt; simp at hlt)
  subst ea
  refine ⟨g, o + l, by unfold cutAt; rw [if_neg (by omega)]; simp [Addr.add_mid], fun j u hu => ?_⟩
  rw [Nat.add_assoc]
  refine hr (l + j) u ?_
  have : secCells (bs.drop l) = (secCells bs).drop l := by simp [secCells]
  rw [this, List.getElem?_drop] at hu
  exact hu
theorem Sl.len {w : World} {v : Value} {bs : List UInt8} (h : Sl w v bs) : ∃ ao c, v = .slice ao bs.length c ∧ bs.length ≤ c ∧ c ≤ maxLen := let ⟨ao, c, e, h1, h2, _⟩ := h; ⟨ao, c, e, h1, h2⟩
theorem Sl.get {w : World} {ao : Option Addr} {n c : Nat} {bs : List UInt8} (h : Sl w (.slice ao n c) bs) (k : Nat) (hk : k < bs.length) : ∃ g o, ao = some ⟨g, o, none⟩ ∧ w.cell? ⟨g, o + k, none⟩ = some (.int .u8 ((bs.getD k 0).toNat : Int)) := by
  obtain ⟨ao', c', e, h1, h2, h3⟩ := h
  injection e with e1 e2 e3
  subst e1
  obtain ⟨g, o, ea, hr⟩ := h3 (fun h0 => by
    have : bs = [] := List.map_eq_nil_iff.1 h0
    rw [this] at hk; simp at hk)
  refine ⟨g, o, ea, hr k _ ?_⟩
  rw [secCells_get bs k hk]
  simp [hk]
theorem Sl.nil (w : World) : Sl w (.slice none 0 0) [] := Row.nil w
def strOf (bs : List UInt8) : ByteArray := ⟨bs.toArray⟩
theorem foldl_push : ∀ (bs : List UInt8) (s : ByteArray), (bs.map fun b => (b.toNat : Int)).foldl (fun r n => r.push (UInt8.ofNat n.toNat)) s = ⟨s.data ++ bs.toArray⟩
  | [], s => by simp
  | b :: r, s => by
    rw [List.map_cons, List.foldl_cons, foldl_push r]
    simp [ByteArray.push]
end Go.Proofs.YteeembildppgmaaGreat.Enc
