/- Records, their bytes, and the records that bytes tell: lists alone. -/
import Derived.Test.YtmfiafdhflaafaaRows
import Derived.WalkKit
namespace Go.Proofs.Ytmfiafdhflaafaa
open Go.RowKit
set_option linter.unusedVariables false
set_option linter.unusedSimpArgs false

theorem hide {p : Prop} (h : p) : Hid p := h
/-! ### Eight bytes and their number -/
def beval (bs : List UInt8) : Nat := bs.foldl (fun v c => v * 256 + c.toNat) 0
theorem beval_snoc (bs : List UInt8) (c : UInt8) : beval (bs ++ [c]) = beval bs * 256 + c.toNat := by simp [beval]
theorem befold_lt : ∀ (bs : List UInt8) (v : Nat), bs.foldl (fun v c => v * 256 + c.toNat) v < (v + 1) * 256 ^ bs.length
  | [], v => by simp
  | c :: r, v => by
    rw [List.foldl_cons, List.length_cons, Nat.pow_succ]
    refine Nat.lt_of_lt_of_le (befold_lt r _) ?_
    have := c.toNat_lt
    calc (v * 256 + c.toNat + 1) * 256 ^ r.length ≤ ((v + 1) * 256) * 256 ^ r.length := Nat.mul_le_mul_right _ (by omega)
      _ = (v + 1) * (256 ^ r.length * 256) := by rw [Nat.mul_assoc, Nat.mul_comm 256]
theorem beval_lt (bs : List UInt8) : beval bs < 256 ^ bs.length := by
  have := befold_lt bs 0
  simpa [beval] using this
def be8 (v : Nat) : List UInt8 := (List.range 8).map fun i => UInt8.ofNat (v / 256 ^ (7 - i) % 256)
theorem length_be8 (v : Nat) : (be8 v).length = 8 := by simp [be8]
theorem be8_get (v k : Nat) (h : k < 8) : (be8 v)[k]'(by rw [length_be8]; exact h) = UInt8.ofNat (v / 256 ^ (7 - k) % 256) := by simp [be8]
theorem beval_be8_take (v : Nat) (hv : v < 18446744073709551616) : ∀ k, k ≤ 8 → beval ((be8 v).take k) = v / 256 ^ (8 - k)
  | 0, _ => by simp [beval]; omega
  | k + 1, h => by
    rw [List.take_succ_eq_append_getElem (by rw [length_be8]; omega), beval_snoc, beval_be8_take v hv k (by omega), be8_get v k (by omega), UInt8.toNat_ofNat', Nat.mod_mod]
    have e : 256 ^ (8 - k) = 256 ^ (7 - k) * 256 := by rw [← Nat.pow_succ]; congr 1; omega
    rw [e, ← Nat.div_div_eq_div_mul, show 8 - (k + 1) = 7 - k by omega]
    omega
theorem beval_be8 (v : Nat) (hv : v < 18446744073709551616) : beval (be8 v) = v := by
  have := beval_be8_take v hv 8 (Nat.le_refl _)
  rw [List.take_of_length_le (by rw [length_be8]; exact Nat.le_refl _)] at this
  simpa using this
def num (x : Int) : List UInt8 := be8 x.toNat
theorem length_num (x : Int) : (num x).length = 8 := length_be8 _

/-! ### A record -/
structure Rc where
  kind : Int
  txn : Int
  prev : Int
  next : Int
  page : Int
  off : Int
  before : List UInt8
  after : List UInt8
  txns : List (Int × Int × Int)
  dirty : List (Int × Int)
  count : Int
def Rc.zero : Rc := ⟨0, 0, 0, 0, 0, 0, [], [], [], [], 0⟩
def encNums (l : List Int) : List UInt8 := l.flatMap num
theorem length_encNums : ∀ l : List Int, (encNums l).length = 8 * l.length
  | [] => rfl
  | x :: r => by
    have := length_encNums r
    simp only [encNums, List.flatMap_cons, List.length_append, length_num, List.length_cons] at this ⊢
    omega
def encTx (t : Int × Int × Int) : List UInt8 := encNums [t.1, t.2.1, t.2.2]
def encDt (t : Int × Int) : List UInt8 := encNums [t.1, t.2]
def encTxs (l : List (Int × Int × Int)) : List UInt8 := l.flatMap encTx
def encDts (l : List (Int × Int)) : List UInt8 := l.flatMap encDt
theorem length_encTxs : ∀ l, (encTxs l).length = 24 * l.length
  | [] => rfl
  | x :: r => by
    have := length_encTxs r
    simp only [encTxs, encTx, List.flatMap_cons, List.length_append, length_encNums, List.length_cons, List.length_nil] at this ⊢
    omega
theorem length_encDts : ∀ l, (encDts l).length = 16 * l.length
  | [] => rfl
  | x :: r => by
    have := length_encDts r
    simp only [encDts, encDt, List.flatMap_cons, List.length_append, length_encNums, List.length_cons, List.length_nil] at this ⊢
    omega
def Rc.head (R : Rc) : List Int := [R.kind, R.txn, R.prev, R.next, R.page, R.off]
def encBytes (b : List UInt8) : List UInt8 := num b.length ++ b
def Rc.body (R : Rc) : List UInt8 :=
  encNums R.head ++ (encBytes R.before ++ (encBytes R.after ++ (num R.txns.length ++ (encTxs R.txns ++ (num R.dirty.length ++ (encDts R.dirty ++ num R.count))))))
def Rc.size (R : Rc) : Nat := 96 + R.before.length + R.after.length + 24 * R.txns.length + 16 * R.dirty.length
theorem length_body (R : Rc) : R.body.length = R.size - 8 := by
  simp only [Rc.body, Rc.size, Rc.head, encBytes, List.length_append, length_num, length_encNums, length_encTxs, length_encDts, List.length_cons, List.length_nil]
  omega
def Rc.enc (R : Rc) : List UInt8 := num R.body.length ++ R.body
theorem length_enc (R : Rc) : R.enc.length = R.size := by
  rw [Rc.enc, List.length_append, length_num, length_body]
  simp only [Rc.size]
  omega

/-! ### What bytes tell -/
def getNum (r : List UInt8) : Option (Int × List UInt8) :=
  if r.length < 8 then none else if 4611686018427387904 < beval (r.take 8) then none else some (((beval (r.take 8) : Nat) : Int), r.drop 8)
def getPiece (r : List UInt8) : Option (List UInt8 × List UInt8) :=
  match getNum r with
  | none => none
  | some (n, r') => if (r'.length : Int) < n then none else some (r'.take n.toNat, r'.drop n.toNat)
def getNums : Nat → List UInt8 → Option (List Int × List UInt8)
  | 0, r => some ([], r)
  | k + 1, r => match getNum r with
    | none => none
    | some (n, r') => match getNums k r' with
      | none => none
      | some (l, r'') => some (n :: l, r'')
def getTx (r : List UInt8) : Option ((Int × Int × Int) × List UInt8) :=
  match getNums 3 r with
  | some ([a, b, c], r') => some ((a, b, c), r')
  | _ => none
def getDt (r : List UInt8) : Option ((Int × Int) × List UInt8) :=
  match getNums 2 r with
  | some ([a, b], r') => some ((a, b), r')
  | _ => none
def getMany {α : Type} (f : List UInt8 → Option (α × List UInt8)) : Nat → List UInt8 → Option (List α × List UInt8)
  | 0, r => some ([], r)
  | k + 1, r => match f r with
    | none => none
    | some (x, r') => match getMany f k r' with
      | none => none
      | some (l, r'') => some (x :: l, r'')
/-- A count, and so many items. -/
def getList {α : Type} (f : List UInt8 → Option (α × List UInt8)) (r : List UInt8) : Option (List α × List UInt8) :=
  match getNum r with
  | none => none
  | some (n, r') => getMany f n.toNat r'
def atCount (R : Rc) (r : List UInt8) : Option Rc :=
  match getNum r with
  | none => none
  | some (n, r') => if r' = [] then some { R with count := n } else none
def atDirty (R : Rc) (r : List UInt8) : Option Rc :=
  match getList getDt r with
  | none => none
  | some (l, r') => atCount { R with dirty := l } r'
def atTxns (R : Rc) (r : List UInt8) : Option Rc :=
  match getList getTx r with
  | none => none
  | some (l, r') => atDirty { R with txns := l } r'
def atAfter (R : Rc) (r : List UInt8) : Option Rc :=
  match getPiece r with
  | none => none
  | some (p, r') => atTxns { R with after := p } r'
def atBefore (R : Rc) (r : List UInt8) : Option Rc :=
  match getPiece r with
  | none => none
  | some (p, r') => atAfter { R with before := p } r'
def Rc.ofHead : List Int → Rc
  | [a, b, c, d, e, f] => ⟨a, b, c, d, e, f, [], [], [], [], 0⟩
  | _ => Rc.zero
def atHead (r : List UInt8) : Option Rc :=
  match getNums 6 r with
  | none => none
  | some (l, r') => atBefore (Rc.ofHead l) r'
def dec (b : List UInt8) : Option Rc :=
  match getPiece b with
  | none => none
  | some (own, _) => atHead own

/-! ### Lengths -/
theorem getNum_len {r r' : List UInt8} {n : Int} (h : getNum r = some (n, r')) : r.length = 8 + r'.length ∧ 0 ≤ n ∧ n ≤ 4611686018427387904 ∧ r' = r.drop 8 := by
  unfold getNum at h
  split at h
  · cases h
  · split at h
    · cases h
    · simp only [Option.some.injEq, Prod.mk.injEq] at h
      obtain ⟨rfl, rfl⟩ := h
      refine ⟨by rw [List.length_drop]; omega, by omega, by omega, rfl⟩
theorem getNums_len : ∀ (k : Nat) {r r' : List UInt8} {l : List Int}, getNums k r = some (l, r') → r.length = 8 * k + r'.length ∧ l.length = k
  | 0, r, r', l, h => by
    simp only [getNums, Option.some.injEq, Prod.mk.injEq] at h
    obtain ⟨rfl, rfl⟩ := h
    simp
  | k + 1, r, r', l, h => by
    simp only [getNums] at h
    split at h
    · cases h
    · rename_i n r1 h1
      split at h
      · cases h
      · rename_i l2 r2 h2
        simp only [Option.some.injEq, Prod.mk.injEq] at h
        obtain ⟨rfl, rfl⟩ := h
        have e1 := getNum_len h1
        have e2 := getNums_len k h2
        simp only [List.length_cons]
        omega
theorem getTx_len {r r' : List UInt8} {x : Int × Int × Int} (h : getTx r = some (x, r')) : r.length = 24 + r'.length := by
  unfold getTx at h
  split at h
  · rename_i a b c r1 h1
    simp only [Option.some.injEq, Prod.mk.injEq] at h
    obtain ⟨_, rfl⟩ := h
    have := getNums_len 3 h1
    omega
  · cases h
theorem getDt_len {r r' : List UInt8} {x : Int × Int} (h : getDt r = some (x, r')) : r.length = 16 + r'.length := by
  unfold getDt at h
  split at h
  · rename_i a b r1 h1
    simp only [Option.some.injEq, Prod.mk.injEq] at h
    obtain ⟨_, rfl⟩ := h
    have := getNums_len 2 h1
    omega
  · cases h
theorem getMany_len {α : Type} {f : List UInt8 → Option (α × List UInt8)} {m : Nat} (hf : ∀ r x r', f r = some (x, r') → r.length = m + r'.length) : ∀ (k : Nat) {r r' : List UInt8} {l : List α}, getMany f k r = some (l, r') → r.length = m * k + r'.length ∧ l.length = k
  | 0, r, r', l, h => by
    simp only [getMany, Option.some.injEq, Prod.mk.injEq] at h
    obtain ⟨rfl, rfl⟩ := h
    simp
  | k + 1, r, r', l, h => by
    simp only [getMany] at h
    split at h
    · cases h
    · rename_i x r1 h1
      split at h
      · cases h
      · rename_i l2 r2 h2
        simp only [Option.some.injEq, Prod.mk.injEq] at h
        obtain ⟨rfl, rfl⟩ := h
        have e1 := hf _ _ _ h1
        have e2 := getMany_len hf k h2
        rw [List.length_cons, Nat.mul_add]
        omega
theorem getList_len {α : Type} {f : List UInt8 → Option (α × List UInt8)} {m : Nat} (hf : ∀ r x r', f r = some (x, r') → r.length = m + r'.length) {r r' : List UInt8} {l : List α} (h : getList f r = some (l, r')) : r.length = 8 + m * l.length + r'.length := by
  unfold getList at h
  split at h
  · cases h
  · rename_i n r1 h1
    have e1 := getNum_len h1
    have e2 := getMany_len hf _ h
    rw [e2.2]
    omega
theorem getPiece_len {r r' p : List UInt8} (h : getPiece r = some (p, r')) : r.length = 8 + p.length + r'.length := by
  unfold getPiece at h
  split at h
  · cases h
  · rename_i n r1 h1
    have e1 := getNum_len h1
    split at h
    · cases h
    · simp only [Option.some.injEq, Prod.mk.injEq] at h
      obtain ⟨rfl, rfl⟩ := h
      simp only [List.length_take, List.length_drop]
      omega
theorem dec_size {b : List UInt8} {R : Rc} (h : dec b = some R) : ∃ own r, getPiece b = some (own, r) ∧ 8 + own.length = R.size := by
  unfold dec at h
  split at h
  · cases h
  · rename_i own r0 h0
    refine ⟨own, r0, h0, ?_⟩
    unfold atHead at h
    split at h
    · cases h
    · rename_i l r1 h1
      have e1 := getNums_len 6 h1
      have ez : (Rc.ofHead l).before = [] ∧ (Rc.ofHead l).after = [] := by
        unfold Rc.ofHead; split <;> exact ⟨rfl, rfl⟩
      unfold atBefore at h
      split at h
      · cases h
      · rename_i p2 r2 h2
        have e2 := getPiece_len h2
        unfold atAfter at h
        split at h
        · cases h
        · rename_i p3 r3 h3
          have e3 := getPiece_len h3
          unfold atTxns at h
          split at h
          · cases h
          · rename_i p4 r4 h4
            have e4 := getList_len (fun _ _ _ => getTx_len) h4
            unfold atDirty at h
            split at h
            · cases h
            · rename_i p5 r5 h5
              have e5 := getList_len (fun _ _ _ => getDt_len) h5
              unfold atCount at h
              split at h
              · cases h
              · rename_i n r6 h6
                have e6 := getNum_len h6
                split at h
                · rename_i h7
                  rw [h7] at e6
                  simp only [Option.some.injEq] at h
                  subst h
                  simp only [Rc.size, List.length_nil] at e6 ⊢
                  omega
                · cases h
theorem dec_le {b : List UInt8} {R : Rc} (h : dec b = some R) : R.size ≤ b.length := by
  obtain ⟨own, r, h1, h2⟩ := dec_size h
  have := getPiece_len h1
  omega

/-! ### There and back -/
def fits (x : Int) : Prop := 0 ≤ x ∧ x ≤ 4611686018427387904
theorem getNum_num (x : Int) (h : fits x) (r : List UInt8) : getNum (num x ++ r) = some (x, r) := by
  have h8 : (num x ++ r).take 8 = num x := by rw [List.take_append_of_le_length (by rw [length_num]; exact Nat.le_refl _), List.take_of_length_le (by rw [length_num]; exact Nat.le_refl _)]
  have hd : (num x ++ r).drop 8 = r := by rw [List.drop_append_of_le_length (by rw [length_num]; exact Nat.le_refl _), List.drop_of_length_le (by rw [length_num]; exact Nat.le_refl _), List.nil_append]
  have hb : beval (num x) = x.toNat := beval_be8 _ (by have := h.2; omega)
  unfold getNum
  rw [h8, hd, hb, if_neg (by rw [List.length_append, length_num]; omega), if_neg (by have := h.2; omega)]
  congr 2
  have := h.1
  omega
theorem getNums_enc : ∀ (l : List Int), (∀ x ∈ l, fits x) → ∀ r, getNums l.length (encNums l ++ r) = some (l, r)
  | [], _, r => rfl
  | x :: l, h, r => by
    have ih := getNums_enc l (fun y hy => h y (List.mem_cons_of_mem _ hy)) r
    have e : encNums (x :: l) ++ r = num x ++ (encNums l ++ r) := by simp [encNums]
    rw [List.length_cons, e]
    simp only [getNums, getNum_num x (h x (by simp)), ih]
theorem getTx_enc (t : Int × Int × Int) (h : fits t.1 ∧ fits t.2.1 ∧ fits t.2.2) (r : List UInt8) : getTx (encTx t ++ r) = some (t, r) := by
  have := getNums_enc [t.1, t.2.1, t.2.2] (fun x hx => by simp at hx; rcases hx with rfl | rfl | rfl; exact h.1; exact h.2.1; exact h.2.2) r
  simp only [List.length_cons, List.length_nil] at this
  unfold getTx encTx
  rw [this]
theorem getDt_enc (t : Int × Int) (h : fits t.1 ∧ fits t.2) (r : List UInt8) : getDt (encDt t ++ r) = some (t, r) := by
  have := getNums_enc [t.1, t.2] (fun x hx => by simp at hx; rcases hx with rfl | rfl; exact h.1; exact h.2) r
  simp only [List.length_cons, List.length_nil] at this
  unfold getDt encDt
  rw [this]
theorem getMany_enc {α : Type} {f : List UInt8 → Option (α × List UInt8)} {g : α → List UInt8} {p : α → Prop} (hf : ∀ x, p x → ∀ r, f (g x ++ r) = some (x, r)) : ∀ (l : List α), (∀ x ∈ l, p x) → ∀ r, getMany f l.length (l.flatMap g ++ r) = some (l, r)
  | [], _, r => rfl
  | x :: l, h, r => by
    have ih := getMany_enc hf l (fun y hy => h y (List.mem_cons_of_mem _ hy)) r
    have e : (x :: l).flatMap g ++ r = g x ++ (l.flatMap g ++ r) := by simp
    rw [List.length_cons, e]
    simp only [getMany, hf x (h x (by simp)), ih]
theorem getList_enc {α : Type} {f : List UInt8 → Option (α × List UInt8)} {g : α → List UInt8} {p : α → Prop} (hf : ∀ x, p x → ∀ r, f (g x ++ r) = some (x, r)) (l : List α) (hp : ∀ x ∈ l, p x) (hl : l.length ≤ 4611686018427387904) (r : List UInt8) :
    getList f (num l.length ++ (l.flatMap g ++ r)) = some (l, r) := by
  unfold getList
  rw [getNum_num _ ⟨by omega, by omega⟩]
  simp only [Int.toNat_natCast]
  exact getMany_enc hf l hp r
theorem getPiece_enc (p : List UInt8) (hl : p.length ≤ 4611686018427387904) (r : List UInt8) : getPiece (encBytes p ++ r) = some (p, r) := by
  unfold getPiece encBytes
  rw [List.append_assoc, getNum_num _ ⟨by omega, by omega⟩]
  simp only [List.length_append, Int.toNat_natCast]
  rw [if_neg (by omega), List.take_append_of_le_length (Nat.le_refl _), List.take_of_length_le (Nat.le_refl _), List.drop_append_of_le_length (Nat.le_refl _), List.drop_of_length_le (Nat.le_refl _), List.nil_append]
structure Rc.good (R : Rc) : Prop where
  head : ∀ x ∈ R.head, fits x
  txns : ∀ t ∈ R.txns, fits t.1 ∧ fits t.2.1 ∧ fits t.2.2
  dirty : ∀ t ∈ R.dirty, fits t.1 ∧ fits t.2
  count : fits R.count
theorem dec_enc (R : Rc) (h : R.good) (hs : R.size ≤ 4611686018427387904) (more : List UInt8) : dec (R.enc ++ more) = some R := by
  have hs' : 96 + R.before.length + R.after.length + 24 * R.txns.length + 16 * R.dirty.length ≤ 4611686018427387904 := hs
  unfold dec
  have e0 : R.enc = encBytes R.body := rfl
  rw [e0, getPiece_enc _ (by rw [length_body]; omega)]
  simp only [atHead, Rc.body]
  have e1 := getNums_enc R.head h.head
  simp only [Rc.head, List.length_cons, List.length_nil] at e1
  simp only [Rc.head, e1, Rc.ofHead, atBefore]
  rw [getPiece_enc _ (by omega)]
  simp only [atAfter]
  rw [getPiece_enc _ (by omega)]
  simp only [atTxns, encTxs]
  rw [getList_enc (p := fun t => fits t.1 ∧ fits t.2.1 ∧ fits t.2.2) getTx_enc _ h.txns (by omega)]
  simp only [atDirty, encDts]
  rw [getList_enc (p := fun t => fits t.1 ∧ fits t.2) getDt_enc _ h.dirty (by omega)]
  simp only [atCount]
  have e6 := getNum_num R.count h.count []
  rw [List.append_nil] at e6
  simp only [e6, if_true]
theorem dec_short (R : Rc) (hs : R.size ≤ 4611686018427387904) (k : Nat) (hk : k < R.enc.length) : dec (R.enc.take k) = none := by
  have hl := length_enc R
  have hb := length_body R
  have : getPiece (R.enc.take k) = none := by
    unfold getPiece
    by_cases h8 : k < 8
    · have : getNum (R.enc.take k) = none := by unfold getNum; rw [if_pos (by rw [List.length_take]; omega)]
      rw [this]
    · have e : R.enc.take k = num R.body.length ++ R.body.take (k - 8) := by
        rw [Rc.enc, List.take_append, length_num, List.take_of_length_le (by rw [length_num]; omega)]
      rw [e, getNum_num _ ⟨by omega, by omega⟩]
      simp only [List.length_take]
      rw [if_pos (by have : 96 ≤ R.size := by simp only [Rc.size]; omega
                     omega)]
  unfold dec
  rw [this]
theorem dec_nil : dec [] = none := rfl
theorem dec_few (b : List UInt8) (h : b.length < 8) : dec b = none := by
  have : getPiece b = none := by
    have : getNum b = none := by unfold getNum; rw [if_pos h]
    unfold getPiece
    rw [this]
  unfold dec
  rw [this]
theorem enc_take (R : Rc) (more : List UInt8) (k : Nat) (hk : k ≤ R.enc.length) : (R.enc ++ more).take k = R.enc.take k := List.take_append_of_le_length hk
end Go.Proofs.Ytmfiafdhflaafaa
