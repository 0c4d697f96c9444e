/- Pages of records, their bytes, and the pages that bytes tell: lists alone. -/
import Derived.Test.YtdddeneppciiiaaRows
import Derived.WalkKit
namespace Go.Proofs.Ytdddeneppciiiaa
open Go.RowKit
set_option linter.unusedVariables false
set_option linter.unusedSimpArgs false

theorem hide {p : Prop} (h : p) : Hid p := h
/-! ### Bytes and their number -/
def beval (bs : List UInt8) : Nat := bs.foldl (fun v c => v * 256 + c.toNat) 0
theorem beval_snoc (bs : List UInt8) (c : UInt8) : beval (bs ++ [c]) = beval bs * 256 + c.toNat := by simp [beval]
theorem befold_lt : ∀ (bs : List UInt8) (v : Nat), bs.foldl (fun v c => v * 256 + c.toNat) v < (v + 1) * 256 ^ bs.length
  | [], v => by simp
  | c :: r, v => by
    rw [List.foldl_cons, List.length_cons, Nat.pow_succ]
    refine Nat.lt_of_lt_of_le (befold_lt r _) ?_
    have := c.toNat_lt
    calc (v * 256 + c.toNat + 1) * 256 ^ r.length ≤ ((v + 1) * 256) * 256 ^ r.length := Nat.mul_le_mul_right _ (by omega)
      _ = (v + 1) * (256 ^ r.length * 256) := by rw [Nat.mul_assoc, Nat.mul_comm 256]
theorem beval_lt (bs : List UInt8) : beval bs < 256 ^ bs.length := by
  have := befold_lt bs 0
  simpa [beval] using this
def be : Nat → Nat → List UInt8
  | 0, _ => []
  | k + 1, v => be k (v / 256) ++ [UInt8.ofNat (v % 256)]
theorem length_be : ∀ k v, (be k v).length = k
  | 0, _ => rfl
  | k + 1, v => by simp [be, length_be k]
theorem beval_be : ∀ k v, v < 256 ^ k → beval (be k v) = v
  | 0, v, h => by simp at h; subst h; rfl
  | k + 1, v, h => by
    rw [be, beval_snoc, beval_be k (v / 256) (by rw [Nat.pow_succ] at h; omega), UInt8.toNat_ofNat']
    omega
theorem be_beval : ∀ k (bs : List UInt8), bs.length = k → be k (beval bs) = bs
  | 0, bs, h => by
    have : bs = [] := List.eq_nil_of_length_eq_zero h
    subst this; rfl
  | k + 1, bs, h => by
    obtain ⟨r, c, rfl⟩ : ∃ r c, bs = r ++ [c] := ⟨bs.dropLast, bs.getLast (by intro e; rw [e] at h; simp at h), (List.dropLast_concat_getLast _).symm⟩
    have hr : r.length = k := by simpa using h
    have hc := c.toNat_lt
    rw [be, beval_snoc, show (beval r * 256 + c.toNat) / 256 = beval r by omega, be_beval k r hr, show (beval r * 256 + c.toNat) % 256 = c.toNat by omega]
    simp
theorem be_zero : ∀ k, be k 0 = List.replicate k 0
  | 0 => rfl
  | k + 1 => by rw [be, Nat.zero_div, be_zero k, List.replicate_succ']; rfl

/-! ### Pages -/
abbrev Slt := Option (List UInt8)
def slen (s : Slt) : Nat := (s.getD []).length
def blen : List Slt → Nat
  | [] => 0
  | s :: r => slen s + blen r
def body : List Slt → List UInt8
  | [] => []
  | s :: r => body r ++ s.getD []
def tab : Nat → List Slt → List UInt8
  | _, [] => []
  | low, none :: r => be 2 0 ++ be 2 0 ++ tab low r
  | low, some d :: r => be 2 (low - d.length) ++ be 2 (d.length + 1) ++ tab (low - d.length) r
structure Pg where
  next : Nat
  sl : List Slt
def tsize (S : List Slt) : Nat := 6 + 4 * S.length + blen S
def Pg.size (g : Pg) : Nat := tsize g.sl
def Pg.enc (g : Pg) : List UInt8 := be 2 g.sl.length ++ be 4 g.next ++ tab 504 g.sl ++ List.replicate (504 - g.size) 0 ++ body g.sl
def need (S : List Slt) : Nat → Nat
  | 0 => 0
  | n + 1 => if S[n]? = some none then need S n else n + 1
structure Good (g : Pg) : Prop where
  next : g.next < 4294967296
  size : g.size ≤ 504
  short : ∀ d, some d ∈ g.sl → d.length ≤ 480
  last : need g.sl g.sl.length = g.sl.length
theorem length_body : ∀ S, (body S).length = blen S
  | [] => rfl
  | s :: r => by rw [body, blen, List.length_append, length_body r, slen, Nat.add_comm]
theorem length_tab : ∀ low S, (tab low S).length = 4 * S.length
  | _, [] => rfl
  | low, none :: r => by simp only [tab, List.length_append, length_be, length_tab low r, List.length_cons]; omega
  | low, some d :: r => by simp only [tab, List.length_append, length_be, length_tab (low - d.length) r, List.length_cons]; omega
theorem length_enc (g : Pg) (h : g.size ≤ 504) : g.enc.length = 504 := by
  have : g.size = 6 + 4 * g.sl.length + blen g.sl := rfl
  simp only [Pg.enc, List.length_append, length_be, length_tab, List.length_replicate, length_body]
  omega
theorem need_le (S : List Slt) : ∀ n, need S n ≤ n
  | 0 => Nat.le_refl _
  | n + 1 => by
    rw [need]; split
    · have := need_le S n; omega
    · exact Nat.le_refl _

/-! ### What bytes tell -/
def whe (bs : List UInt8) (i : Nat) : Nat := beval ((bs.drop (6 + 4 * i)).take 2)
def szo (bs : List UInt8) (i : Nat) : Nat := beval ((bs.drop (8 + 4 * i)).take 2)
def rd (bs : List UInt8) (tb : Nat) : Nat → Nat → Nat → Option (List Slt × Nat)
  | 0, _, low => some ([], low)
  | k + 1, i, low =>
    if szo bs i = 0 then
      if whe bs i = 0 then (rd bs tb k (i + 1) low).map fun r => (none :: r.1, r.2) else none
    else if 480 < szo bs i - 1 then none
    else if whe bs i < tb then none
    else if whe bs i + (szo bs i - 1) ≠ low then none
    else (rd bs tb k (i + 1) (whe bs i)).map fun r => (some ((bs.drop (whe bs i)).take (szo bs i - 1)) :: r.1, r.2)
def fin (bs : List UInt8) (nx : Nat) (S : List Slt) (low : Nat) : Option Pg :=
  if need S S.length ≠ S.length then none
  else if ((bs.drop (6 + 4 * S.length)).take (low - (6 + 4 * S.length))).all (fun b => b == 0) = true then some ⟨nx, S⟩ else none
/-- What is still to be told, behind slots S. -/
def cont (bs : List UInt8) (nx n : Nat) (S : List Slt) (low : Nat) : Option Pg :=
  (rd bs (6 + 4 * n) (n - S.length) S.length low).bind fun r => fin bs nx (S ++ r.1) r.2
def dec (bs : List UInt8) : Option Pg :=
  if bs.length ≠ 504 then none
  else if 124 < beval (bs.take 2) then none
  else cont bs (beval ((bs.drop 2).take 4)) (beval (bs.take 2)) [] 504
theorem cont_end (bs : List UInt8) (nx : Nat) (S : List Slt) (low : Nat) : cont bs nx S.length S low = fin bs nx S low := by
  simp [cont, rd]
theorem cont_none {bs : List UInt8} {nx n : Nat} {S : List Slt} {low : Nat} (h : S.length < n) (hs : szo bs S.length = 0) (hw : whe bs S.length = 0) : cont bs nx n S low = cont bs nx n (S ++ [none]) low := by
  obtain ⟨k, hk⟩ : ∃ k, n - S.length = k + 1 := ⟨n - S.length - 1, by omega⟩
  have hk' : n - (S ++ [none]).length = k := by simp; omega
  unfold cont
  rw [hk, hk', rd, if_pos hs, if_pos hw, Option.bind_map]
  simp only [List.length_append, List.length_cons, List.length_nil, List.append_assoc, List.singleton_append, Nat.zero_add]
  rfl
theorem cont_wrong {bs : List UInt8} {nx n : Nat} {S : List Slt} {low : Nat} (h : S.length < n) (hs : (szo bs S.length = 0 ∧ whe bs S.length ≠ 0) ∨ (szo bs S.length ≠ 0 ∧ (480 < szo bs S.length - 1 ∨ whe bs S.length < 6 + 4 * n ∨ whe bs S.length + (szo bs S.length - 1) ≠ low))) : cont bs nx n S low = none := by
  obtain ⟨k, hk⟩ : ∃ k, n - S.length = k + 1 := ⟨n - S.length - 1, by omega⟩
  unfold cont
  rw [hk, rd]
  rcases hs with ⟨h1, h2⟩ | ⟨h1, h2⟩
  · rw [if_pos h1, if_neg h2]; rfl
  · rw [if_neg h1]
    by_cases a : 480 < szo bs S.length - 1
    · rw [if_pos a]; rfl
    rw [if_neg a]
    by_cases b : whe bs S.length < 6 + 4 * n
    · rw [if_pos b]; rfl
    rw [if_neg b, if_pos (by rcases h2 with h | h | h; exact absurd h a; exact absurd h b; exact h)]
    rfl
theorem cont_some {bs : List UInt8} {nx n : Nat} {S : List Slt} {low : Nat} (h : S.length < n) (h0 : szo bs S.length ≠ 0) (h1 : szo bs S.length - 1 ≤ 480) (h2 : 6 + 4 * n ≤ whe bs S.length) (h3 : whe bs S.length + (szo bs S.length - 1) = low) :
    cont bs nx n S low = cont bs nx n (S ++ [some ((bs.drop (whe bs S.length)).take (szo bs S.length - 1))]) (whe bs S.length) := by
  obtain ⟨k, hk⟩ : ∃ k, n - S.length = k + 1 := ⟨n - S.length - 1, by omega⟩
  have hk' : n - (S ++ [some ((bs.drop (whe bs S.length)).take (szo bs S.length - 1))]).length = k := by simp; omega
  unfold cont
  rw [hk, hk', rd, if_neg h0, if_neg (by omega), if_neg (by omega), if_neg (by simp [h3]), Option.bind_map]
  simp only [List.length_append, List.length_cons, List.length_nil, List.append_assoc, List.singleton_append, Nat.zero_add]
  rfl

/-! ### There and back -/
theorem rd_spec {bs : List UInt8} {tb : Nat} (hb : bs.length = 504) : ∀ k i low S lo, rd bs tb k i low = some (S, lo) → low ≤ 504 → tb ≤ low → 6 + 4 * (i + k) ≤ 504 →
    S.length = k ∧ lo + blen S = low ∧ tb ≤ lo ∧ (bs.drop (6 + 4 * i)).take (4 * k) = tab low S ∧ (bs.drop lo).take (low - lo) = body S ∧ ∀ d, some d ∈ S → d.length ≤ 480
  | 0, i, low, S, lo, h, h1, h2, h3 => by
    simp only [rd, Option.some.injEq, Prod.mk.injEq] at h
    obtain ⟨rfl, rfl⟩ := h
    simp [blen, body, tab, h2]
  | k + 1, i, low, S, lo, h, h1, h2, h3 => by
    have split4 : (bs.drop (6 + 4 * i)).take (4 * (k + 1)) = (bs.drop (6 + 4 * i)).take 2 ++ (bs.drop (8 + 4 * i)).take 2 ++ (bs.drop (6 + 4 * (i + 1))).take (4 * k) := by
      rw [show 4 * (k + 1) = 2 + (2 + 4 * k) by omega, List.take_add, List.take_add, List.drop_drop, List.drop_drop, List.append_assoc]
      congr 3 <;> congr 1 <;> omega
    have l1 : ((bs.drop (6 + 4 * i)).take 2).length = 2 := by rw [List.length_take, List.length_drop]; omega
    have l2 : ((bs.drop (8 + 4 * i)).take 2).length = 2 := by rw [List.length_take, List.length_drop]; omega
    have e1 : be 2 (whe bs i) = (bs.drop (6 + 4 * i)).take 2 := be_beval 2 _ l1
    have e2 : be 2 (szo bs i) = (bs.drop (8 + 4 * i)).take 2 := be_beval 2 _ l2
    rw [rd] at h
    by_cases a : szo bs i = 0
    · rw [if_pos a] at h
      by_cases b : whe bs i = 0
      · rw [if_pos b] at h
        obtain ⟨⟨S', lo'⟩, hr, hq⟩ := Option.map_eq_some_iff.1 h
        simp only [Prod.mk.injEq] at hq
        obtain ⟨rfl, rfl⟩ := hq
        obtain ⟨r1, r2, r3, r4, r5, r6⟩ := rd_spec hb k (i + 1) low S' lo' hr h1 h2 (by omega)
        rw [a] at e2
        rw [b] at e1
        refine ⟨by simp [r1], by simp only [blen, slen, Option.getD_none, List.length_nil]; omega, r3, ?_, ?_, ?_⟩
        · rw [split4, r4, ← e1, ← e2, tab]
        · rw [r5, body]; simp
        · intro d hd
          simp at hd
          exact r6 d hd
      · rw [if_neg b] at h; cases h
    · rw [if_neg a] at h
      by_cases b : 480 < szo bs i - 1
      · rw [if_pos b] at h; cases h
      rw [if_neg b] at h
      by_cases c : whe bs i < tb
      · rw [if_pos c] at h; cases h
      rw [if_neg c] at h
      by_cases d : whe bs i + (szo bs i - 1) ≠ low
      · rw [if_pos d] at h; cases h
      rw [if_neg d] at h
      have d' : whe bs i + (szo bs i - 1) = low := Classical.not_not.1 d
      obtain ⟨⟨S', lo'⟩, hr, hq⟩ := Option.map_eq_some_iff.1 h
      simp only [Prod.mk.injEq] at hq
      obtain ⟨rfl, rfl⟩ := hq
      obtain ⟨r1, r2, r3, r4, r5, r6⟩ := rd_spec hb k (i + 1) _ S' lo' hr (by omega) (by omega) (by omega)
      have ld : ((bs.drop (whe bs i)).take (szo bs i - 1)).length = szo bs i - 1 := by rw [List.length_take, List.length_drop]; omega
      refine ⟨by simp [r1], by simp only [blen, slen, Option.getD_some, ld]; omega, r3, ?_, ?_, ?_⟩
      · rw [split4, r4, ← e1, ← e2, tab, ld, show szo bs i - 1 + 1 = szo bs i by omega, show low - (szo bs i - 1) = whe bs i by omega]
      · have : low - lo' = (whe bs i - lo') + (szo bs i - 1) := by omega
        rw [body, Option.getD_some, ← r5, this, List.take_add, List.drop_drop, show lo' + (whe bs i - lo') = whe bs i by omega]
      · intro d hd
        simp at hd
        rcases hd with rfl | hd
        · rw [ld]; omega
        · exact r6 d hd
theorem enc_dec {bs : List UInt8} {g : Pg} (h : dec bs = some g) : Good g ∧ g.enc = bs := by
  unfold dec at h
  by_cases hb : bs.length ≠ 504
  · rw [if_pos hb] at h; cases h
  rw [if_neg hb] at h
  replace hb : bs.length = 504 := Classical.not_not.1 hb
  by_cases hn : 124 < beval (bs.take 2)
  · rw [if_pos hn] at h; cases h
  rw [if_neg hn] at h
  have e1 : be 2 (beval (bs.take 2)) = bs.take 2 := be_beval 2 _ (by rw [List.length_take]; omega)
  have e2 : be 4 (beval ((bs.drop 2).take 4)) = (bs.drop 2).take 4 := be_beval 4 _ (by rw [List.length_take, List.length_drop]; omega)
  have hx : beval ((bs.drop 2).take 4) < 4294967296 := by
    have := beval_lt ((bs.drop 2).take 4)
    rw [show ((bs.drop 2).take 4).length = 4 by rw [List.length_take, List.length_drop]; omega] at this
    exact this
  generalize beval (bs.take 2) = n at *
  generalize beval ((bs.drop 2).take 4) = nx at *
  obtain ⟨⟨S, lo⟩, hr, hf⟩ := Option.bind_eq_some_iff.1 h
  simp only [List.length_nil, List.nil_append, Nat.sub_zero] at hr hf
  obtain ⟨r1, r2, r3, r4, r5, r6⟩ := rd_spec hb n 0 504 S lo hr (Nat.le_refl _) (by omega) (by omega)
  unfold fin at hf
  split at hf
  · cases hf
  rename_i hl
  split at hf
  · rename_i hz
    simp only [Option.some.injEq] at hf
    subst hf
    have hsz : Pg.size ⟨nx, S⟩ = 6 + 4 * n + blen S := by simp only [Pg.size, tsize, r1]
    refine ⟨⟨hx, by rw [hsz]; omega, r6, Classical.not_not.1 hl⟩, ?_⟩
    have hz' : (bs.drop (6 + 4 * n)).take (lo - (6 + 4 * n)) = List.replicate (504 - Pg.size ⟨nx, S⟩) 0 := by
      rw [r1] at hz
      refine List.eq_replicate_iff.2 ⟨?_, fun b hb => by simpa using List.all_eq_true.1 hz b hb⟩
      rw [List.length_take, List.length_drop, hsz]; omega
    simp only [Pg.enc]
    rw [r1, e1, e2, ← r4, ← hz', ← r5]
    have t1 : bs = bs.take 2 ++ ((bs.drop 2).take 4 ++ ((bs.drop 6).take (4 * n) ++ ((bs.drop (6 + 4 * n)).take (lo - (6 + 4 * n)) ++ (bs.drop lo).take (504 - lo)))) := by
      have a1 : bs.drop (6 + 4 * n) = (bs.drop (6 + 4 * n)).take (lo - (6 + 4 * n)) ++ bs.drop lo := by
        have := (List.take_append_drop (lo - (6 + 4 * n)) (bs.drop (6 + 4 * n))).symm
        rwa [List.drop_drop, show 6 + 4 * n + (lo - (6 + 4 * n)) = lo by omega] at this
      have a2 : bs.drop 6 = (bs.drop 6).take (4 * n) ++ bs.drop (6 + 4 * n) := by
        have := (List.take_append_drop (4 * n) (bs.drop 6)).symm
        rwa [List.drop_drop] at this
      have a3 : bs.drop 2 = (bs.drop 2).take 4 ++ bs.drop 6 := by
        have := (List.take_append_drop 4 (bs.drop 2)).symm
        rwa [List.drop_drop] at this
      have a4 : (bs.drop lo).take (504 - lo) = bs.drop lo := List.take_of_length_le (by rw [List.length_drop]; omega)
      rw [a4, ← a1, ← a2, ← a3, List.take_append_drop]
    simp only [Nat.mul_zero, Nat.add_zero, List.append_assoc]
    exact t1.symm
  · cases hf
theorem rd_tab {bs : List UInt8} {tb : Nat} (hb : bs.length = 504) : ∀ S i low, (bs.drop (6 + 4 * i)).take (4 * S.length) = tab low S → (bs.drop (low - blen S)).take (blen S) = body S → tb + blen S ≤ low → low ≤ 504 → 6 + 4 * (i + S.length) ≤ 504 → (∀ d, some d ∈ S → d.length ≤ 480) →
    rd bs tb S.length i low = some (S, low - blen S)
  | [], i, low, h1, h2, h3, h4, h5, h6 => by simp [rd, blen]
  | s :: S, i, low, h1, h2, h3, h4, h5, h6 => by
    simp only [List.length_cons] at h1 h5
    have split4 : (bs.drop (6 + 4 * i)).take (4 * (S.length + 1)) = (bs.drop (6 + 4 * i)).take 2 ++ (bs.drop (8 + 4 * i)).take 2 ++ (bs.drop (6 + 4 * (i + 1))).take (4 * S.length) := by
      rw [show 4 * (S.length + 1) = 2 + (2 + 4 * S.length) by omega, List.take_add, List.take_add, List.drop_drop, List.drop_drop, List.append_assoc]
      congr 3 <;> congr 1 <;> omega
    have l1 : ((bs.drop (6 + 4 * i)).take 2).length = 2 := by rw [List.length_take, List.length_drop]; omega
    have l2 : ((bs.drop (8 + 4 * i)).take 2).length = 2 := by rw [List.length_take, List.length_drop]; omega
    rw [split4] at h1
    rw [List.length_cons, rd]
    cases s with
    | none =>
      rw [tab] at h1
      obtain ⟨h7, h8⟩ := List.append_inj h1 (by simp only [List.length_append, l1, l2, length_be])
      obtain ⟨h9, h10⟩ := List.append_inj h7 (by simp only [l1, length_be])
      have w0 : whe bs i = 0 := by unfold whe; rw [h9]; exact beval_be 2 0 (by decide)
      have s0 : szo bs i = 0 := by unfold szo; rw [h10]; exact beval_be 2 0 (by decide)
      have hbl : blen (none :: S) = blen S := by simp [blen, slen]
      rw [hbl] at h2 h3 ⊢
      rw [if_pos s0, if_pos w0, rd_tab hb S (i + 1) low h8 (by rw [h2]; simp [body]) h3 h4 (by omega) (fun d hd => h6 d (by simp [hd]))]
      rfl
    | some d =>
      rw [tab] at h1
      have hd := h6 d (by simp)
      obtain ⟨h7, h8⟩ := List.append_inj h1 (by simp only [List.length_append, l1, l2, length_be])
      obtain ⟨h9, h10⟩ := List.append_inj h7 (by simp only [l1, length_be])
      have hbl : blen (some d :: S) = d.length + blen S := by simp [blen, slen]
      rw [hbl] at h2 h3 ⊢
      have w0 : whe bs i = low - d.length := by unfold whe; rw [h9]; exact beval_be 2 _ (by simp; omega)
      have s0 : szo bs i = d.length + 1 := by unfold szo; rw [h10]; exact beval_be 2 _ (by simp; omega)
      have hB : (bs.drop (low - (d.length + blen S))).take (blen S) ++ (bs.drop (low - d.length)).take d.length = body S ++ d := by
        have : (bs.drop (low - (d.length + blen S))).take (d.length + blen S) = body S ++ d := by rw [h2]; simp [body]
        rw [Nat.add_comm d.length, List.take_add, List.drop_drop] at this
        rw [Nat.add_comm d.length, show low - d.length = low - (blen S + d.length) + blen S by omega]
        exact this
      obtain ⟨h11, h12⟩ := List.append_inj hB (by rw [List.length_take, List.length_drop, length_body]; omega)
      rw [if_neg (by omega), if_neg (by omega), if_neg (by omega), if_neg (by omega), w0, s0, rd_tab hb S (i + 1) (low - d.length) h8 (by rw [← h11, Nat.sub_sub]) (by omega) (by omega) (by omega) (fun d hd => h6 d (by simp [hd]))]
      simp only [Option.map_some, Nat.add_sub_cancel, h12, Nat.sub_sub]
theorem dec_enc {g : Pg} (h : Good g) : dec g.enc = some g := by
  have hs : g.size = 6 + 4 * g.sl.length + blen g.sl := rfl
  have h504 := h.size
  have hl := length_enc g h.size
  have t2 : g.enc.take 2 = be 2 g.sl.length := by
    simp only [Pg.enc, List.append_assoc]
    rw [List.take_append_of_le_length (by simp [length_be]), List.take_of_length_le (by simp [length_be])]
  have d2 : g.enc.drop 2 = be 4 g.next ++ (tab 504 g.sl ++ (List.replicate (504 - g.size) 0 ++ body g.sl)) := by
    simp only [Pg.enc, List.append_assoc]
    rw [List.drop_append_of_le_length (by simp [length_be]), List.drop_of_length_le (by simp [length_be])]; rfl
  have t4 : (g.enc.drop 2).take 4 = be 4 g.next := by
    rw [d2, List.take_append_of_le_length (by simp [length_be]), List.take_of_length_le (by simp [length_be])]
  have d6 : g.enc.drop 6 = tab 504 g.sl ++ (List.replicate (504 - g.size) 0 ++ body g.sl) := by
    rw [show 6 = 2 + 4 by rfl, ← List.drop_drop, d2, List.drop_append_of_le_length (by simp [length_be]), List.drop_of_length_le (by simp [length_be])]; rfl
  have dT : g.enc.drop (6 + 4 * g.sl.length) = List.replicate (504 - g.size) 0 ++ body g.sl := by
    rw [← List.drop_drop, d6, List.drop_append_of_le_length (by simp [length_tab]), List.drop_of_length_le (by simp [length_tab])]; rfl
  have dB : g.enc.drop (504 - blen g.sl) = body g.sl := by
    rw [show 504 - blen g.sl = 6 + 4 * g.sl.length + (504 - g.size) by omega, ← List.drop_drop, dT, List.drop_append_of_le_length (by simp), List.drop_of_length_le (by simp)]; rfl
  have n2 : beval (g.enc.take 2) = g.sl.length := by rw [t2]; exact beval_be 2 _ (by simp; omega)
  have n4 : beval ((g.enc.drop 2).take 4) = g.next := by rw [t4]; exact beval_be 4 _ (by simpa using h.next)
  unfold dec
  rw [if_neg (by simp [hl]), n2, n4, if_neg (by omega)]
  unfold cont
  simp only [List.length_nil, Nat.sub_zero, List.nil_append]
  rw [rd_tab hl g.sl 0 504 (by rw [Nat.mul_zero, Nat.add_zero, d6, List.take_append_of_le_length (by simp [length_tab]), List.take_of_length_le (by simp [length_tab])]) (by rw [dB, List.take_of_length_le (by rw [length_body]; exact Nat.le_refl _)]) (by omega) (by omega) (by omega) h.short]
  simp only [Option.bind_some, fin, h.last, ne_eq, not_true_eq_false, if_false]
  rw [dT, if_pos ?_]
  refine List.all_eq_true.2 fun b hb => ?_
  rw [show 504 - blen g.sl - (6 + 4 * g.sl.length) = 504 - g.size by omega, List.take_append_of_le_length (by simp), List.take_of_length_le (by simp)] at hb
  simpa using (List.mem_replicate.1 hb).2
theorem dec_eq {bs : List UInt8} {g : Pg} : dec bs = some g ↔ Good g ∧ g.enc = bs := ⟨enc_dec, fun ⟨h, e⟩ => e ▸ dec_enc h⟩
theorem enc_inj {g g' : Pg} (h : Good g) (h' : Good g') (e : g.enc = g'.enc) : g = g' := by
  have := dec_enc h
  rw [e, dec_enc h'] at this
  exact (Option.some.inj this).symm

/-! ### What the calls do -/
def Pg.least (g : Pg) : Nat := g.sl.findIdx Option.isNone
def Pg.putS (g : Pg) (d : List UInt8) : List Slt := if g.least = g.sl.length then g.sl ++ [some d] else g.sl.set g.least (some d)
def Pg.put (g : Pg) (d : List UInt8) : Pg := ⟨g.next, g.putS d⟩
def trim (S : List Slt) : List Slt := S.take (need S S.length)
def Pg.del (g : Pg) (i : Nat) : Pg := ⟨g.next, trim (g.sl.set i none)⟩
def Pg.set (g : Pg) (i : Nat) (d : List UInt8) : Pg := ⟨g.next, g.sl.set i (some d)⟩
def Pg.free (g : Pg) : Nat := min (504 - 4 - g.size) 480
def slotsOf (S : List Slt) (i : Nat) : List Nat := match S with
  | [] => []
  | none :: r => slotsOf r (i + 1)
  | some _ :: r => i :: slotsOf r (i + 1)
def Pg.slots (g : Pg) : List Nat := slotsOf g.sl 0
def Pg.at (g : Pg) (i : Nat) : Slt := g.sl.getD i none

theorem least_le (g : Pg) : g.least ≤ g.sl.length := List.findIdx_le_length
theorem least_none {g : Pg} (h : g.least < g.sl.length) : g.sl[g.least]? = some none := by
  have := List.findIdx_getElem (w := h)
  rw [Option.isNone_iff_eq_none] at this
  rw [List.getElem?_eq_getElem h]
  exact congrArg some this
theorem need_congr {S T : List Slt} : ∀ n, (∀ i < n, S[i]? = T[i]?) → need S n = need T n
  | 0, _ => rfl
  | n + 1, h => by rw [need, need, h n (by omega), need_congr n (fun i hi => h i (by omega))]
theorem need_take (S : List Slt) : ∀ n, need (S.take (need S n)) (need S n) = need S n
  | 0 => by simp [need]
  | n + 1 => by
    rw [need]
    split
    · exact need_take S n
    · rename_i h
      rw [need, if_neg]
      rw [List.getElem?_take_of_lt (by omega)]
      exact h
theorem length_trim (S : List Slt) : (trim S).length = need S S.length := by
  have := need_le S S.length
  rw [trim, List.length_take]; omega
theorem trim_last (S : List Slt) : need (trim S) (trim S).length = (trim S).length := by
  rw [length_trim]
  exact need_take S S.length
theorem trim_self {S : List Slt} (h : need S S.length = S.length) : trim S = S := by rw [trim, h, List.take_length]
theorem blen_append : ∀ S T, blen (S ++ T) = blen S + blen T
  | [], T => by simp [blen]
  | s :: S, T => by simp only [List.cons_append, blen, blen_append S T]; omega
theorem blen_take_le : ∀ (S : List Slt) n, blen (S.take n) ≤ blen S
  | [], n => by simp
  | s :: S, 0 => by simp [blen]
  | s :: S, n + 1 => by have := blen_take_le S n; simp only [List.take_succ_cons, blen]; omega
theorem blen_set : ∀ (S : List Slt) (i : Nat) (s : Slt), i < S.length → blen (S.set i s) + slen (S.getD i none) = blen S + slen s
  | [], i, s, h => by simp at h
  | t :: S, 0, s, h => by simp only [List.set_cons_zero, blen, List.getD_cons_zero]; omega
  | t :: S, i + 1, s, h => by
    have := blen_set S i s (by simpa using h)
    simp only [List.set_cons_succ, blen, List.getD_cons_succ]; omega
theorem del_put {g : Pg} (h : Good g) (d : List UInt8) : (g.put d).del g.least = g := by
  have e : trim ((g.putS d).set g.least none) = g.sl := by
    unfold Pg.putS
    by_cases c : g.least = g.sl.length
    · rw [if_pos c, c]
      have : (g.sl ++ [some d]).set g.sl.length none = g.sl ++ [none] := by rw [List.set_append_right _ _ (Nat.le_refl _)]; simp
      rw [this, trim]
      have hn : need (g.sl ++ [none]) (g.sl ++ [none]).length = g.sl.length := by
        rw [List.length_append, List.length_singleton, need, if_pos (by simp)]
        rw [need_congr (T := g.sl) _ (fun i hi => List.getElem?_append_left hi)]
        exact h.last
      rw [hn]; simp
    · rw [if_neg c]
      have hlt : g.least < g.sl.length := by have := least_le g; omega
      have hs : (g.sl.set g.least (some d)).set g.least none = g.sl := by
        rw [List.set_set]
        refine List.ext_getElem? fun i => ?_
        rw [List.getElem?_set]
        split
        · rename_i e
          subst e
          exact (least_none hlt).symm
        · rfl
      rw [hs, trim_self h.last]
  cases g with | mk nx S => simp only [Pg.put, Pg.del]; exact congrArg (Pg.mk nx) e
theorem need_set_some {S : List Slt} {i : Nat} {d : List UInt8} (h : need S S.length = S.length) : need (S.set i (some d)) S.length = S.length := by
  cases hn : S.length with
  | zero => simp [need]
  | succ n =>
    rw [hn, need] at h
    rw [need]
    split at h
    · have := need_le S n; omega
    rename_i h0
    rw [if_neg]
    rw [List.getElem?_set]
    split
    · split <;> simp
    · exact h0
theorem put_good {g : Pg} (h : Good g) {d : List UInt8} (hd : d.length ≤ 480) (hs : tsize (g.putS d) ≤ 504) : Good (g.put d) := by
  refine ⟨h.next, hs, fun x hx => ?_, ?_⟩
  · simp only [Pg.put, Pg.putS] at hx
    split at hx
    · rcases List.mem_append.1 hx with hx | hx
      · exact h.short x hx
      · simp at hx; subst hx; exact hd
    · rcases List.mem_or_eq_of_mem_set hx with hx | hx
      · exact h.short x hx
      · simp at hx; subst hx; exact hd
  · simp only [Pg.put, Pg.putS]
    split
    · rw [List.length_append, List.length_singleton, need, if_neg (by simp)]
    · rw [List.length_set]; exact need_set_some h.last
theorem set_good {g : Pg} (h : Good g) {d : List UInt8} {i : Nat} (hd : d.length ≤ 480) (hs : tsize (g.sl.set i (some d)) ≤ 504) : Good (g.set i d) := by
  refine ⟨h.next, hs, fun x hx => ?_, ?_⟩
  · rcases List.mem_or_eq_of_mem_set hx with hx | hx
    · exact h.short x hx
    · simp at hx; subst hx; exact hd
  · simp only [Pg.set, List.length_set]; exact need_set_some h.last
theorem blen_set_none_le : ∀ (S : List Slt) (i : Nat), blen (S.set i none) ≤ blen S
  | [], i => by simp
  | t :: S, 0 => by simp only [List.set_cons_zero, blen, slen, Option.getD_none, List.length_nil]; omega
  | t :: S, i + 1 => by have := blen_set_none_le S i; simp only [List.set_cons_succ, blen]; omega
theorem del_good {g : Pg} (h : Good g) (i : Nat) : Good (g.del i) := by
  refine ⟨h.next, ?_, fun x hx => ?_, trim_last _⟩
  · have h0 := h.size
    have h1 := blen_take_le (g.sl.set i none) (need (g.sl.set i none) (g.sl.set i none).length)
    have h2 := blen_set_none_le g.sl i
    have h3 := length_trim (g.sl.set i none)
    have h4 := need_le (g.sl.set i none) (g.sl.set i none).length
    rw [List.length_set] at h4
    rw [List.length_set] at h3
    simp only [Pg.size, tsize, Pg.del] at h0 ⊢
    unfold trim at *
    omega
  · have := List.mem_of_mem_take hx
    rcases List.mem_or_eq_of_mem_set this with hx | hx
    · exact h.short x hx
    · cases hx
theorem next_good {g : Pg} (h : Good g) {n : Nat} (hn : n < 4294967296) : Good ⟨n, g.sl⟩ := ⟨hn, h.size, h.short, h.last⟩
def Pg.zero : Pg := ⟨0, []⟩
theorem zero_good : Good Pg.zero := ⟨by decide, by decide, fun d hd => by simp [Pg.zero] at hd, rfl⟩
theorem at_put {g : Pg} (d : List UInt8) : (g.put d).at g.least = some d := by
  have h := least_le g
  simp only [Pg.at, Pg.put, Pg.putS]
  split
  · rename_i e
    rw [e]; simp
  · have : g.least < g.sl.length := by omega
    simp [List.getD, List.getElem?_set, this]
end Go.Proofs.Ytdddeneppciiiaa
