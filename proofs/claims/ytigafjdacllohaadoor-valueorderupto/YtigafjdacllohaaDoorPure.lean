/- Values and their bytes, as lists alone. -/
import Derived.Test.YtigafjdacllohaaDoorRows
import Derived.WalkKit
namespace Go.Proofs.YtigafjdacllohaaDoor
open Go.RowKit
set_option linter.unusedVariables false
set_option linter.unusedSimpArgs false

theorem hide {p : Prop} (h : p) : Hid p := h
/-- A value. -/
structure Vl where
  ty : Int
  n : Int
  t : List UInt8
  b : Bool
def Vl.zero : Vl := ⟨0, 0, [], false⟩
def Vl.wf (v : Vl) : Prop := (-9223372036854775808 ≤ v.ty ∧ v.ty ≤ 9223372036854775807) ∧ (-9223372036854775808 ≤ v.n ∧ v.n ≤ 9223372036854775807)

/-! ### Numbers as bytes, the highest first -/
def be : Nat → Nat → List UInt8
  | 0, _ => []
  | k + 1, n => be k (n / 256) ++ [UInt8.ofNat (n % 256)]
def beval (bs : List UInt8) : Nat := bs.foldl (fun a b => a * 256 + b.toNat) 0
theorem length_be : ∀ k n, (be k n).length = k
  | 0, _ => rfl
  | k + 1, n => by simp [be, length_be k]
theorem beval_snoc (bs : List UInt8) (b : UInt8) : beval (bs ++ [b]) = beval bs * 256 + b.toNat := by simp [beval, List.foldl_append]
theorem beval_be : ∀ k n, n < 256 ^ k → beval (be k n) = n
  | 0, n, h => by simp at h; subst h; rfl
  | k + 1, n, h => by
    rw [be, beval_snoc, beval_be k (n / 256) (by rw [Nat.pow_succ] at h; omega)]
    rw [UInt8.toNat_ofNat', Nat.mod_mod_of_dvd _ (by decide)]
    omega
theorem beval_lt : ∀ bs, beval bs < 256 ^ bs.length := by
  intro bs
  have key : ∀ (bs : List UInt8) (a : Nat), bs.foldl (fun a b => a * 256 + b.toNat) a < (a + 1) * 256 ^ bs.length := by
    intro bs
    induction bs with
    | nil => intro a; simp
    | cons b r ih =>
      intro a
      have := ih (a * 256 + b.toNat)
      have hb := b.toNat_lt
      rw [List.foldl_cons, List.length_cons, Nat.pow_succ]
      refine Nat.lt_of_lt_of_le this ?_
      have h2 : (a * 256 + b.toNat + 1) ≤ (a + 1) * 256 := by omega
      calc (a * 256 + b.toNat + 1) * 256 ^ r.length ≤ ((a + 1) * 256) * 256 ^ r.length := Nat.mul_le_mul_right _ h2
        _ = (a + 1) * (256 ^ r.length * 256) := by rw [Nat.mul_assoc, Nat.mul_comm 256]
  have := key bs 0
  simpa [beval] using this
def turn (n : Int) : Nat := (n + 9223372036854775808).toNat
def back (u : Nat) : Int := (u : Int) - 9223372036854775808
theorem turn_lt {n : Int} (h : -9223372036854775808 ≤ n ∧ n ≤ 9223372036854775807) : turn n < 18446744073709551616 := by unfold turn; omega
theorem back_turn {n : Int} (h : -9223372036854775808 ≤ n ∧ n ≤ 9223372036854775807) : back (turn n) = n := by unfold back turn; omega

/-! ### Texts -/
def escB (c : UInt8) : List UInt8 := if c = 0 then [0, 255] else [c]
def esc (t : List UInt8) : List UInt8 := t.flatMap escB
theorem esc_cons (c : UInt8) (t : List UInt8) : esc (c :: t) = escB c ++ esc t := rfl
theorem esc_snoc (t : List UInt8) (c : UInt8) : esc (t ++ [c]) = esc t ++ escB c := by simp [esc, List.flatMap_append]
theorem length_escB (c : UInt8) : (escB c).length ≤ 2 := by unfold escB; split <;> simp
theorem length_esc : ∀ t, (esc t).length ≤ 2 * t.length
  | [] => by simp [esc]
  | c :: t => by rw [esc_cons, List.length_append, List.length_cons]; have := length_escB c; have := length_esc t; omega

def bitB (b : Bool) : UInt8 := if b then 1 else 0
def enc (v : Vl) : List UInt8 :=
  if v.ty = 1 then 1 :: be 8 (turn v.n) else if v.ty = 2 then 2 :: (esc v.t ++ [0, 0]) else if v.ty = 3 then [3, bitB v.b] else [0]
theorem length_enc (v : Vl) : 1 ≤ (enc v).length ∧ (enc v).length ≤ 9 + 2 * v.t.length := by
  unfold enc
  split
  · simp [length_be]
  · split
    · have := length_esc v.t
      simp; omega
    · split <;> (simp; omega)
def joinL (l : List Vl) : List UInt8 := l.flatMap enc
theorem joinL_snoc (l : List Vl) (v : Vl) : joinL (l ++ [v]) = joinL l ++ enc v := by simp [joinL, List.flatMap_append]

/-! ### Reading -/
def decA : List UInt8 → Nat → List UInt8 → Option (List UInt8 × Nat)
  | _, _, [] => none
  | acc, k, x :: r =>
    if x ≠ 0 then decA (acc ++ [x]) (k + 1) r
    else match r with
      | [] => none
      | y :: r' => if y = 0 then some (acc, k + 2) else if y = 255 then decA (acc ++ [x]) (k + 2) r' else none
theorem decA_nil (acc : List UInt8) (k : Nat) : decA acc k [] = none := by unfold decA; rfl
theorem decA_nz (acc : List UInt8) (k : Nat) (x : UInt8) (r : List UInt8) (h : x ≠ 0) : decA acc k (x :: r) = decA (acc ++ [x]) (k + 1) r := by
  rw [decA.eq_def]; simp [h]
theorem decA_z (acc : List UInt8) (k : Nat) : decA acc k [0] = none := by rw [decA.eq_def]; simp
theorem decA_zz (acc : List UInt8) (k : Nat) (r : List UInt8) : decA acc k (0 :: 0 :: r) = some (acc, k + 2) := by rw [decA.eq_def]; simp
theorem decA_zf (acc : List UInt8) (k : Nat) (r : List UInt8) : decA acc k (0 :: 255 :: r) = decA (acc ++ [0]) (k + 2) r := by rw [decA.eq_def]; simp
theorem decA_zx (acc : List UInt8) (k : Nat) (y : UInt8) (r : List UInt8) (h0 : y ≠ 0) (h1 : y ≠ 255) : decA acc k (0 :: y :: r) = none := by rw [decA.eq_def]; simp [h0, h1]
theorem decA_esc : ∀ (t : List UInt8) (acc : List UInt8) (k : Nat) (more : List UInt8), decA acc k (esc t ++ 0 :: 0 :: more) = some (acc ++ t, k + (esc t).length + 2)
  | [], acc, k, more => by
    have e : esc [] = [] := rfl
    rw [e, List.nil_append, decA_zz]
    simp
  | c :: t, acc, k, more => by
    rw [esc_cons]
    by_cases h : c = 0
    · subst h
      have e : escB 0 = [0, 255] := rfl
      rw [e]
      simp only [List.cons_append, List.nil_append]
      rw [decA_zf, decA_esc t]
      simp
      omega
    · have e : escB c = [c] := by simp [escB, h]
      rw [e]
      simp only [List.cons_append, List.nil_append]
      rw [decA_nz _ _ _ _ h, decA_esc t]
      simp
      omega
theorem decA_size : ∀ (bs acc : List UInt8) (k : Nat) (p : List UInt8 × Nat), decA acc k bs = some p → k + 2 ≤ p.2 ∧ p.2 ≤ k + bs.length ∧ p.1.length ≤ acc.length + bs.length
  | [], acc, k, p, h => by rw [decA_nil] at h; cases h
  | [x], acc, k, p, h => by
    by_cases hx : x = 0
    · subst hx; rw [decA_z] at h; cases h
    · rw [decA_nz _ _ _ _ hx, decA_nil] at h; cases h
  | x :: y :: r, acc, k, p, h => by
    by_cases hx : x = 0
    · subst hx
      by_cases h0 : y = 0
      · subst h0
        rw [decA_zz] at h
        injection h with h
        subst h
        simp
      · by_cases h1 : y = 255
        · subst h1
          rw [decA_zf] at h
          have := decA_size r _ _ _ h
          simp at this ⊢
          omega
        · rw [decA_zx _ _ _ _ h0 h1] at h; cases h
    · rw [decA_nz _ _ _ _ hx] at h
      have := decA_size (y :: r) _ _ _ h
      simp at this ⊢
      omega
def dec : List UInt8 → Option (Vl × Nat)
  | [] => none
  | c :: r =>
    if c = 0 then some (Vl.zero, 1)
    else if c = 1 then (if r.length < 8 then none else some (⟨1, back (beval (r.take 8)), [], false⟩, 9))
    else if c = 2 then (decA [] 0 r).map fun p => (⟨2, 0, p.1, false⟩, p.2 + 1)
    else if c = 3 then (match r with | [] => none | x :: _ => if 1 < x.toNat then none else some (⟨3, 0, [], x == 1⟩, 2))
    else none
theorem dec_size {bs : List UInt8} {p : Vl × Nat} (h : dec bs = some p) : 1 ≤ p.2 ∧ p.2 ≤ bs.length ∧ p.1.t.length ≤ bs.length := by
  cases bs with
  | nil => simp [dec] at h
  | cons c r =>
    simp only [dec] at h
    split at h
    · injection h with h; subst h; simp [Vl.zero]
    · split at h
      · split at h
        · simp at h
        · injection h with h; subst h; simp; omega
      · split at h
        · cases hq : decA [] 0 r with
          | none => rw [hq] at h; simp at h
          | some q =>
            rw [hq] at h
            simp at h
            subst h
            have := decA_size r [] 0 q hq
            simp at this ⊢
            omega
        · split at h
          · cases r with
            | nil => simp at h
            | cons x r' =>
              simp only at h
              split at h
              · simp at h
              · injection h with h; subst h; simp
          · simp at h
/-- A value of one of the types, nothing else in it. -/
def clean (v : Vl) : Vl :=
  if v.ty = 1 then ⟨1, v.n, [], false⟩ else if v.ty = 2 then ⟨2, 0, v.t, false⟩ else if v.ty = 3 then ⟨3, 0, [], v.b⟩ else Vl.zero
theorem dec_enc (v : Vl) (hw : v.wf) (more : List UInt8) : dec (enc (clean v) ++ more) = some (clean v, (enc (clean v)).length) := by
  unfold clean
  split
  · simp only [enc, if_pos, List.cons_append, dec]
    rw [if_neg (by decide), if_neg (by simp [length_be])]
    have hb : (be 8 (turn v.n) ++ more).take 8 = be 8 (turn v.n) := by rw [List.take_left' (length_be _ _)]
    rw [hb, beval_be 8 _ (Nat.lt_of_lt_of_le (turn_lt hw.2) (by decide)), back_turn hw.2]
    simp [length_be]
  · split
    · have e2 : enc ⟨2, 0, v.t, false⟩ = 2 :: (esc v.t ++ [0, 0]) := rfl
      rw [e2]
      simp only [List.cons_append, dec]
      rw [if_neg (by decide), if_neg (by decide), if_pos trivial]
      have e : esc v.t ++ [0, 0] ++ more = esc v.t ++ 0 :: 0 :: more := by simp
      rw [e, decA_esc]
      simp
    · split
      · have e3 : enc ⟨3, 0, [], v.b⟩ = [3, bitB v.b] := rfl
        rw [e3]
        cases hb : v.b <;> simp [dec, bitB]
      · simp [enc, Vl.zero, dec]
theorem wf_clean {v : Vl} (h : v.wf) : (clean v).wf := by
  unfold clean
  split
  · exact ⟨by simp, h.2⟩
  · split
    · exact ⟨by simp, by simp⟩
    · split
      · exact ⟨by simp, by simp⟩
      · exact ⟨by simp [Vl.zero], by simp [Vl.zero]⟩
theorem clean_len (v : Vl) : (clean v).t.length ≤ v.t.length := by
  unfold clean
  split
  · simp
  · split
    · simp
    · split <;> simp [Vl.zero]
def splitN : Nat → List UInt8 → List Vl → Option (List Vl)
  | 0, bs, acc => if bs = [] then some acc else none
  | f + 1, bs, acc => if bs = [] then some acc else match dec bs with
    | none => none
    | some p => splitN f (bs.drop p.2) (acc ++ [p.1])
theorem splitN_nil (f : Nat) (acc : List Vl) : splitN f [] acc = some acc := by cases f <;> simp [splitN]
theorem splitN_none {f : Nat} {bs : List UInt8} {acc : List Vl} (hf : bs.length ≤ f) (hb : bs ≠ []) (h : dec bs = none) : splitN f bs acc = none := by
  cases f with
  | zero => simp [splitN, hb]
  | succ f => simp [splitN, hb, h]
theorem splitN_some {f : Nat} {bs : List UInt8} {acc : List Vl} {p : Vl × Nat} (hf : bs.length ≤ f) (hb : bs ≠ []) (h : dec bs = some p) : ∃ f', (bs.drop p.2).length ≤ f' ∧ splitN f bs acc = splitN f' (bs.drop p.2) (acc ++ [p.1]) := by
  cases f with
  | zero => exact absurd (List.eq_nil_of_length_eq_zero (by omega)) hb
  | succ f =>
    refine ⟨f, ?_, by simp [splitN, hb, h]⟩
    have := dec_size h
    rw [List.length_drop]
    omega
theorem splitN_join : ∀ (l : List Vl) (f : Nat) (acc : List Vl), (∀ v ∈ l, v.wf) → (joinL (l.map clean)).length ≤ f → splitN f (joinL (l.map clean)) acc = some (acc ++ l.map clean)
  | [], f, acc, _, _ => by simp [joinL, splitN_nil]
  | v :: l, f, acc, hw, hf => by
    have e : joinL ((v :: l).map clean) = enc (clean v) ++ joinL (l.map clean) := rfl
    rw [e] at hf ⊢
    have hd := dec_enc v (hw v (by simp)) (joinL (l.map clean))
    have hne : enc (clean v) ++ joinL (l.map clean) ≠ [] := by
      have := (length_enc (clean v)).1
      intro h0
      have := congrArg List.length h0
      simp at this
      simp [this.1] at *
    obtain ⟨f', h1, h2⟩ := splitN_some (acc := acc) hf hne hd
    rw [h2]
    have e2 : (enc (clean v) ++ joinL (l.map clean)).drop (enc (clean v)).length = joinL (l.map clean) := List.drop_left
    simp only at h1 ⊢
    rw [e2] at h1 ⊢
    rw [splitN_join l f' _ (fun u hu => hw u (by simp [hu])) h1]
    simp
/-! ### How values stand -/
def cmpI (x y : Int) : Int := if x < y then -1 else if y < x then 1 else 0
def cmpS (x y : List UInt8) : Int := if Op.bytesLess x y = true then -1 else if x = y then 0 else 1
def bitI (b : Bool) : Int := if b then 1 else 0
def cmpV (a b : Vl) : Int :=
  if a.ty ≠ b.ty then cmpI a.ty b.ty else if a.ty = 1 then cmpI a.n b.n else if a.ty = 2 then cmpS a.t b.t else if a.ty = 3 then cmpI (bitI a.b) (bitI b.b) else 0
theorem cmpI_cases (x y : Int) : (x < y ∧ cmpI x y = -1) ∨ (x = y ∧ cmpI x y = 0) ∨ (y < x ∧ cmpI x y = 1) := by
  unfold cmpI
  split
  · left; exact ⟨by assumption, rfl⟩
  · split
    · right; right; exact ⟨by assumption, rfl⟩
    · right; left; exact ⟨by omega, rfl⟩
theorem less_irrefl : ∀ a, Op.bytesLess a a = false
  | [] => rfl
  | c :: r => by simp [Op.bytesLess, less_irrefl r]
theorem less_total : ∀ a b, Op.bytesLess a b = true ∨ a = b ∨ Op.bytesLess b a = true
  | [], [] => .inr (.inl rfl)
  | [], _ :: _ => .inl rfl
  | _ :: _, [] => .inr (.inr rfl)
  | a :: x, b :: y => by
    simp only [Op.bytesLess]
    rcases Nat.lt_trichotomy a.toNat b.toNat with h | h | h
    · left; simp [UInt8.lt_iff_toNat_lt, h]
    · have : a = b := UInt8.toNat_inj.1 h
      subst this
      rcases less_total x y with k | k | k
      · left; simp [k]
      · right; left; rw [k]
      · right; right; simp [k]
    · right; right; simp [UInt8.lt_iff_toNat_lt, h]
/-- They part, the first going lower. -/
def Div (a b : List UInt8) : Prop := ∃ p c d r s, a = p ++ c :: r ∧ b = p ++ d :: s ∧ c.toNat < d.toNat
theorem Div.app {a b : List UInt8} (h : Div a b) (u v : List UInt8) : Div (a ++ u) (b ++ v) := by
  obtain ⟨p, c, d, r, s, rfl, rfl, hlt⟩ := h
  exact ⟨p, c, d, r ++ u, s ++ v, by simp, by simp, hlt⟩
theorem Div.pre {a b : List UInt8} (h : Div a b) (q : List UInt8) : Div (q ++ a) (q ++ b) := by
  obtain ⟨p, c, d, r, s, rfl, rfl, hlt⟩ := h
  exact ⟨q ++ p, c, d, r, s, by simp, by simp, hlt⟩
theorem Div.less {a b : List UInt8} (h : Div a b) : Op.bytesLess a b = true ∧ Op.bytesLess b a = false := by
  obtain ⟨p, c, d, r, s, rfl, rfl, hlt⟩ := h
  induction p with
  | nil =>
    simp only [List.nil_append, Op.bytesLess]
    have h1 : ¬ d.toNat < c.toNat := by omega
    have h2 : ¬ d = c := fun e => by subst e; omega
    simp [UInt8.lt_iff_toNat_lt, hlt, h1, h2]
  | cons q p ih => simpa [Op.bytesLess] using ih
theorem Div.not_pre {a b : List UInt8} (h : Div a b) : ¬ a <+: b ∧ ¬ b <+: a := by
  obtain ⟨p, c, d, r, s, rfl, rfl, hlt⟩ := h
  have hne : c ≠ d := fun e => by subst e; omega
  constructor
  · intro ⟨t, ht⟩
    rw [List.append_assoc] at ht
    have := List.append_cancel_left ht
    simp at this
    exact hne this.1
  · intro ⟨t, ht⟩
    rw [List.append_assoc] at ht
    have := List.append_cancel_left ht
    simp at this
    exact hne this.1.symm
theorem Div.ne {a b : List UInt8} (h : Div a b) : a ≠ b := fun e => h.not_pre.1 (by rw [e]; exact List.prefix_rfl)
theorem div_be : ∀ k u v, u < v → v < 256 ^ k → Div (be k u) (be k v)
  | 0, u, v, h, hv => by simp at hv; omega
  | k + 1, u, v, h, hv => by
    rw [be, be]
    rw [Nat.pow_succ] at hv
    by_cases e : u / 256 = v / 256
    · rw [e]
      refine ⟨be k (v / 256), UInt8.ofNat (u % 256), UInt8.ofNat (v % 256), [], [], rfl, rfl, ?_⟩
      rw [UInt8.toNat_ofNat', UInt8.toNat_ofNat', Nat.mod_mod_of_dvd _ (by decide), Nat.mod_mod_of_dvd _ (by decide)]
      omega
    · exact (div_be k _ _ (by omega) (by omega)).app _ _
theorem div_esc : ∀ s t, Op.bytesLess s t = true → Div (esc s ++ [0, 0]) (esc t ++ [0, 0])
  | _, [], h => by simp [Op.bytesLess] at h
  | [], d :: t, _ => by
    rw [esc_cons]
    by_cases e : d = 0
    · subst e
      exact ⟨[0], 0, 255, [], esc t ++ [0, 0], rfl, rfl, by decide⟩
    · have e2 : escB d = [d] := by simp [escB, e]
      rw [e2]
      refine ⟨[], 0, d, [0], esc t ++ [0, 0], rfl, rfl, ?_⟩
      rcases Nat.eq_zero_or_pos d.toNat with h | h
      · exact absurd (UInt8.toNat_inj.1 h) e
      · exact h
  | a :: s, d :: t, h => by
    rw [esc_cons, esc_cons]
    simp only [Op.bytesLess, Bool.or_eq_true, decide_eq_true_eq, Bool.and_eq_true, beq_iff_eq] at h
    rcases h with h | ⟨rfl, h⟩
    · rw [UInt8.lt_iff_toNat_lt] at h
      have hd : d ≠ 0 := fun e => by subst e; simp at h
      have e2 : escB d = [d] := by simp [escB, hd]
      rw [e2]
      by_cases e : a = 0
      · subst e
        exact ⟨[], 0, d, 255 :: (esc s ++ [0, 0]), esc t ++ [0, 0], rfl, rfl, h⟩
      · have e3 : escB a = [a] := by simp [escB, e]
        rw [e3]
        exact ⟨[], a, d, esc s ++ [0, 0], esc t ++ [0, 0], rfl, rfl, h⟩
    · rw [List.append_assoc, List.append_assoc]
      exact (div_esc s t h).pre _
/-- How two clean values stand, and their bytes. -/
theorem stand {a b : Vl} (ha : a.wf) (hb : b.wf) : (cmpV (clean a) (clean b) < 0 ∧ Div (enc (clean a)) (enc (clean b))) ∨ (cmpV (clean a) (clean b) = 0 ∧ clean a = clean b) ∨ (0 < cmpV (clean a) (clean b) ∧ Div (enc (clean b)) (enc (clean a))) := by
  have kinds : ∀ v : Vl, clean v = Vl.zero ∨ clean v = ⟨1, v.n, [], false⟩ ∨ clean v = ⟨2, 0, v.t, false⟩ ∨ clean v = ⟨3, 0, [], v.b⟩ := by
    intro v
    unfold clean
    split
    · simp
    · split
      · simp
      · split <;> simp
  have e0 : enc Vl.zero = [0] := rfl
  have e1 : ∀ n, enc ⟨1, n, [], false⟩ = 1 :: be 8 (turn n) := fun n => rfl
  have e2 : ∀ t, enc ⟨2, 0, t, false⟩ = 2 :: (esc t ++ [0, 0]) := fun t => rfl
  have e3 : ∀ b, enc ⟨3, 0, [], b⟩ = [3, bitB b] := fun t => rfl
  have hd : ∀ (c d : UInt8) (r s : List UInt8), c.toNat < d.toNat → Div (c :: r) (d :: s) := fun c d r s h => ⟨[], c, d, r, s, rfl, rfl, h⟩
  rcases kinds a with h1 | h1 | h1 | h1 <;> rcases kinds b with h2 | h2 | h2 | h2 <;> rw [h1, h2]
  · exact .inr (.inl ⟨rfl, rfl⟩)
  · left; exact ⟨by simp [cmpV, Vl.zero, cmpI], by rw [e0, e1]; exact hd _ _ _ _ (by decide)⟩
  · left; exact ⟨by simp [cmpV, Vl.zero, cmpI], by rw [e0, e2]; exact hd _ _ _ _ (by decide)⟩
  · left; exact ⟨by simp [cmpV, Vl.zero, cmpI], by rw [e0, e3]; exact hd _ _ _ _ (by decide)⟩
  · right; right; exact ⟨by simp [cmpV, Vl.zero, cmpI], by rw [e0, e1]; exact hd _ _ _ _ (by decide)⟩
  · have e : cmpV ⟨1, a.n, [], false⟩ ⟨1, b.n, [], false⟩ = cmpI a.n b.n := by simp [cmpV]
    rw [e, e1, e1]
    rcases cmpI_cases a.n b.n with ⟨h, k⟩ | ⟨h, k⟩ | ⟨h, k⟩
    · left; exact ⟨by omega, (div_be 8 _ _ (by unfold turn; have := ha.2; have := hb.2; omega) (Nat.lt_of_lt_of_le (turn_lt hb.2) (by decide))).pre [1]⟩
    · right; left; exact ⟨k, by rw [h]⟩
    · right; right; exact ⟨by omega, (div_be 8 _ _ (by unfold turn; have := ha.2; have := hb.2; omega) (Nat.lt_of_lt_of_le (turn_lt ha.2) (by decide))).pre [1]⟩
  · left; exact ⟨by simp [cmpV, cmpI], by rw [e1, e2]; exact hd _ _ _ _ (by decide)⟩
  · left; exact ⟨by simp [cmpV, cmpI], by rw [e1, e3]; exact hd _ _ _ _ (by decide)⟩
  · right; right; exact ⟨by simp [cmpV, Vl.zero, cmpI], by rw [e0, e2]; exact hd _ _ _ _ (by decide)⟩
  · right; right; exact ⟨by simp [cmpV, cmpI], by rw [e1, e2]; exact hd _ _ _ _ (by decide)⟩
  · have e : cmpV ⟨2, 0, a.t, false⟩ ⟨2, 0, b.t, false⟩ = cmpS a.t b.t := by simp [cmpV]
    rw [e, e2, e2]
    rcases less_total a.t b.t with h | h | h
    · left; exact ⟨by simp [cmpS, h], (div_esc _ _ h).pre [2]⟩
    · right; left; exact ⟨by rw [h]; simp [cmpS, less_irrefl], by rw [h]⟩
    · right; right
      have h' := div_esc _ _ h
      have hn : Op.bytesLess a.t b.t = false := by
        rcases hq : Op.bytesLess a.t b.t with _ | _
        · rfl
        · have := (div_esc _ _ hq).less.1
          rw [h'.less.2] at this
          simp at this
      have hne : a.t ≠ b.t := fun e => by rw [e, less_irrefl] at h; simp at h
      exact ⟨by simp [cmpS, hn, hne], h'.pre [2]⟩
  · left; exact ⟨by simp [cmpV, cmpI], by rw [e2, e3]; exact hd _ _ _ _ (by decide)⟩
  · right; right; exact ⟨by simp [cmpV, Vl.zero, cmpI], by rw [e0, e3]; exact hd _ _ _ _ (by decide)⟩
  · right; right; exact ⟨by simp [cmpV, cmpI], by rw [e1, e3]; exact hd _ _ _ _ (by decide)⟩
  · right; right; exact ⟨by simp [cmpV, cmpI], by rw [e2, e3]; exact hd _ _ _ _ (by decide)⟩
  · have e : cmpV ⟨3, 0, [], a.b⟩ ⟨3, 0, [], b.b⟩ = cmpI (bitI a.b) (bitI b.b) := by simp [cmpV]
    rw [e, e3, e3]
    cases a.b <;> cases b.b
    · right; left; exact ⟨rfl, rfl⟩
    · left; exact ⟨by decide, [3], 0, 1, [], [], rfl, rfl, by decide⟩
    · right; right; exact ⟨by decide, [3], 0, 1, [], [], rfl, rfl, by decide⟩
    · right; left; exact ⟨rfl, rfl⟩
/-- The first difference counts. -/
def cmpL : List Vl → List Vl → Int
  | [], [] => 0
  | [], _ :: _ => -1
  | _ :: _, [] => 1
  | a :: x, b :: y => if cmpV a b ≠ 0 then cmpV a b else cmpL x y
theorem standL : ∀ (l m : List Vl), (∀ v ∈ l, v.wf) → (∀ v ∈ m, v.wf) → decide (cmpL (l.map clean) (m.map clean) < 0) = Op.bytesLess (joinL (l.map clean)) (joinL (m.map clean)) ∧ (cmpL (l.map clean) (m.map clean) = 0 ↔ joinL (l.map clean) = joinL (m.map clean))
  | [], [], _, _ => ⟨rfl, by simp [cmpL]⟩
  | [], b :: m, _, _ => by
    have e : joinL ((b :: m).map clean) = enc (clean b) ++ joinL (m.map clean) := rfl
    have h1 := (length_enc (clean b)).1
    rw [e]
    cases hc : enc (clean b) with
    | nil => rw [hc] at h1; simp at h1
    | cons c r => exact ⟨by simp [cmpL, joinL, Op.bytesLess], by simp [cmpL, joinL]⟩
  | a :: l, [], _, _ => by
    have e : joinL ((a :: l).map clean) = enc (clean a) ++ joinL (l.map clean) := rfl
    have h1 := (length_enc (clean a)).1
    rw [e]
    cases hc : enc (clean a) with
    | nil => rw [hc] at h1; simp at h1
    | cons c r => exact ⟨by simp [cmpL, joinL, Op.bytesLess], by simp [cmpL, joinL]⟩
  | a :: l, b :: m, hl, hm => by
    have ea : joinL ((a :: l).map clean) = enc (clean a) ++ joinL (l.map clean) := rfl
    have eb : joinL ((b :: m).map clean) = enc (clean b) ++ joinL (m.map clean) := rfl
    rw [ea, eb]
    simp only [List.map_cons, cmpL]
    rcases stand (hl a (by simp)) (hm b (by simp)) with ⟨h, k⟩ | ⟨h, k⟩ | ⟨h, k⟩
    · have k' := k.app (joinL (l.map clean)) (joinL (m.map clean))
      rw [if_pos (by omega), k'.less.1]
      exact ⟨decide_eq_true h, ⟨fun e => by omega, fun e => absurd e k'.ne⟩⟩
    · rw [if_neg (by omega), k]
      obtain ⟨i1, i2⟩ := standL l m (fun v hv => hl v (by simp [hv])) (fun v hv => hm v (by simp [hv]))
      refine ⟨?_, ?_⟩
      · rw [i1]
        generalize enc (clean b) = p
        induction p with
        | nil => rfl
        | cons q p ih => simpa [Op.bytesLess] using ih
      · rw [i2]
        exact ⟨fun e => by rw [e], fun e => List.append_cancel_left e⟩
    · have k' := k.app (joinL (m.map clean)) (joinL (l.map clean))
      rw [if_pos (by omega), k'.less.2]
      exact ⟨decide_eq_false (by omega), ⟨fun e => by omega, fun e => absurd e.symm k'.ne⟩⟩
end Go.Proofs.YtigafjdacllohaaDoor
