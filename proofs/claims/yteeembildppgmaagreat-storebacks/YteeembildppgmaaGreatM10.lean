/- A part of it: FIn PRep PFind Lib. -/
import Derived.Test.YteeembildppgmaaGreatM5
import Derived.Deep.Grids
import Derived.ChangeSlices
import Derived.Shelf.SlSortCmp.SmallK
import Derived.Shelf.SlicesG.Cmp
import Derived.Shelf.Small.Bits
import Derived.Shelf.Bytes.SlClone
import Derived.Test.YteeembildppgmaaGreatProg
namespace Go.Proofs.YteeembildppgmaaGreat
open Go.RowKit
set_option linter.unusedVariables false
set_option linter.unusedSimpArgs false
theorem mod_in (z : Int) (m : Nat) (h1 : 0 < m) (h2 : m ≤ 1000) : ∃ P : Nat, P < m ∧ (z.tmod m + m).tmod m = (P : Int) ∧ IntKind.i64.wrap (z.tmod m + m) = z.tmod m + m := by
 have hb : -(m : Int) < z.tmod m ∧ z.tmod m < m := by
  by_cases hz : 0 ≤ z
  · rw [Int.tmod_eq_emod_of_nonneg hz]
    have := Int.emod_nonneg z (show (m : Int) ≠ 0 by omega)
    have := Int.emod_lt_of_pos z (show 0 < (m : Int) by omega)
    omega
  · have e : z.tmod m = -((-z).tmod m) := by rw [Int.neg_tmod]; omega
    rw [e, Int.tmod_eq_emod_of_nonneg (show 0 ≤ -z by omega)]
    have := Int.emod_nonneg (-z) (show (m : Int) ≠ 0 by omega)
    have := Int.emod_lt_of_pos (-z) (show 0 < (m : Int) by omega)
    omega
 have hn : 0 ≤ z.tmod m + m := by omega
 refine ⟨((z.tmod m + m) % m).toNat, ?_, ?_, ?_⟩
 · have := Int.emod_nonneg (z.tmod m + m) (show (m : Int) ≠ 0 by omega)
   have := Int.emod_lt_of_pos (z.tmod m + m) (show 0 < (m : Int) by omega)
   omega
 · rw [Int.tmod_eq_emod_of_nonneg hn]
   have := Int.emod_nonneg (z.tmod m + m) (show (m : Int) ≠ 0 by omega)
   omega
 · rw [IntKind.wrap_i64]; omega
def Own (w : World) (g : Nat) (t : TypeId) (Z : List Int) : Prop := w.heap[g]? = some (.cells (Z.map (Value.int .i64)).toArray t (0, 0))
theorem Own.cell {w : World} {g : Nat} {t : TypeId} {Z : List Int} (h : Own w g t Z) (k : Nat) (hk : k < Z.length) : w.cell? ⟨g, k, none⟩ = some (.int .i64 (Z.getD k 0)) := by
 rw [cell_of_row _ _ _ _ _ _ h]
 simp [hk]
theorem Own.fz {w : World} {g : Nat} {t : TypeId} {Z : List Int} (h : Own w g t Z) (k : Nat) : w.frozen? ⟨g, k, none⟩ = false := frozen_of_row w g k _ _ h
theorem Own.set {w : World} {g : Nat} {t : TypeId} {Z : List Int} (h : Own w g t Z) (k : Nat) (v : Int) : Own (w.setCell ⟨g, k, none⟩ (.int .i64 v)) g t (Z.set k v) := by
 unfold Own at h ⊢
 rw [heap_setCell_same w g k _ _ _ h]
 simp [List.map_set]
theorem Own.kept {w w' : World} {g : Nat} {t : TypeId} {Z : List Int} {xs : List Nat} (h : Own w g t Z) (hk : Kept xs w w') (hg : g ∈ xs) : Own w' g t Z := (hk.2 g hg).trans h
theorem Own.lt {w : World} {g : Nat} {t : TypeId} {Z : List Int} (h : Own w g t Z) : g < w.heap.size := (Array.getElem?_eq_some_iff.1 h).1
theorem Own.belowW {w w' : World} {g : Nat} {t : TypeId} {Z : List Int} (h : Own w g t Z) (hb : Below w.heap.size w w') : Own w' g t Z := (hb.block g h.lt).trans h
end Go.Proofs.YteeembildppgmaaGreat
namespace Go.Proofs.YteeembildppgmaaGreat
open Go.RowKit
set_option linter.unusedVariables false
set_option linter.unusedSimpArgs false
structure Fm where
 held : Bool
 page : Int
 bs : List UInt8
 asked : Bool
 dirty : Bool
 rlsn : Int
 lsn : Int
def Fm.nil : Fm := ⟨false, 0, [], false, false, 0, 0⟩
def fCells (f : Fm) (v : Value) : List Value := [.bool f.held, .int .i64 f.page, v, .bool f.asked, .bool f.dirty, .int .i64 f.rlsn, .int .i64 f.lsn]
def rowF (fs : List Fm) (vs : List Value) : List Value := (List.zipWith fCells fs vs).flatten
theorem rows7 (fs : List Fm) (vs : List Value) : ∀ x ∈ List.zipWith fCells fs vs, x.length = 7 := by
 intro x hx
 obtain ⟨i, hi, rfl⟩ := List.mem_iff_getElem.1 hx
 rw [List.getElem_zipWith]
 rfl
theorem rowF_length (fs : List Fm) (vs : List Value) (h : vs.length = fs.length) : (rowF fs vs).length = fs.length * 7 := by
 unfold rowF
 rw [flat_length 7 _ (rows7 fs vs), List.length_zipWith, h, Nat.min_self]
theorem rowF_get (fs : List Fm) (vs : List Value) (h : vs.length = fs.length) (i : Nat) (hi : i < fs.length) (k : Nat) (hk : k < 7) : (rowF fs vs)[i * 7 + k]? = (fCells (fs[i]'hi) (vs[i]'(by omega)))[k]? := by
 unfold rowF
 rw [flat_get 7 _ (rows7 fs vs) i (by rw [List.length_zipWith]; omega) k hk, List.getElem_zipWith]
theorem flat_set1 {α : Type} (m : Nat) (v : α) : ∀ (X : List (List α)) (_ : ∀ x ∈ X, x.length = m) (i : Nat) (hi : i < X.length) (j : Nat) (_ : j < m), X.flatten.set (i * m + j) v = (X.set i ((X[i]'hi).set j v)).flatten
 | [], _, i, hi, _, _ => by simp at hi
 | x :: r, h, 0, _, j, hj => by
   have hx : x.length = m := h x (by simp)
   rw [List.flatten_cons, Nat.zero_mul, Nat.zero_add, List.set_append_left _ _ (by omega)]
   rfl
 | x :: r, h, i + 1, hi, j, hj => by
   have hx : x.length = m := h x (by simp)
   rw [List.flatten_cons, List.set_append_right _ _ (by rw [hx, Nat.add_mul]; omega), hx, show (i + 1) * m + j - m = i * m + j by rw [Nat.add_mul]; omega,
    flat_set1 m v r (fun y hy => h y (by simp [hy])) i (by simpa using hi) j hj]
   rfl
theorem zipWith_set {α β γ : Type} (g : α → β → γ) (xs : List α) (bs : List β) (i : Nat) (a : α) (b : β) : (List.zipWith g xs bs).set i (g a b) = List.zipWith g (xs.set i a) (bs.set i b) := by
 apply List.ext_getElem?
 intro k
 rw [List.getElem?_zipWith]
 by_cases e : i = k
 · subst e
   by_cases hl : i < xs.length ∧ i < bs.length
   · rw [List.getElem?_set_self (by rw [List.length_zipWith]; omega), List.getElem?_set_self hl.1, List.getElem?_set_self hl.2]
   · have h1 : ((List.zipWith g xs bs).set i (g a b))[i]? = Option.none := by rw [List.getElem?_eq_none_iff, List.length_set, List.length_zipWith]; omega
     rw [h1]
     by_cases ha : i < xs.length
     · have h2 : (bs.set i b)[i]? = Option.none := by rw [List.getElem?_eq_none_iff, List.length_set]; omega
       rw [h2]
       cases (xs.set i a)[i]? <;> rfl
     · have h2 : (xs.set i a)[i]? = Option.none := by rw [List.getElem?_eq_none_iff, List.length_set]; omega
       rw [h2]
 · rw [List.getElem?_set_ne e, List.getElem?_set_ne e, List.getElem?_set_ne e, List.getElem?_zipWith]
theorem rowF_set1 (fs : List Fm) (vs : List Value) (h : vs.length = fs.length) (i : Nat) (hi : i < fs.length) (k : Nat) (hk : k < 7) (c : Value) (f' : Fm) (v' : Value) (hc : fCells f' v' = (fCells (fs[i]'hi) (vs[i]'(by omega))).set k c) :
 (rowF fs vs).set (i * 7 + k) c = rowF (fs.set i f') (vs.set i v') := by
 unfold rowF
 rw [flat_set1 7 c _ (rows7 fs vs) i (by rw [List.length_zipWith]; omega) k hk, List.getElem_zipWith, ← hc, zipWith_set]
theorem rowF_setAll (fs : List Fm) (vs : List Value) (h : vs.length = fs.length) (i : Nat) (hi : i < fs.length) (f' : Fm) (v' : Value) :
 (rowF fs vs).take (i * 7) ++ fCells f' v' ++ (rowF fs vs).drop (i * 7 + (fCells f' v').length) = rowF (fs.set i f') (vs.set i v') := by
 unfold rowF
 rw [flat_set 7 _ (rows7 fs vs) i (by rw [List.length_zipWith]; omega) _ rfl, zipWith_set]

structure Back where
 σ : Type
 q : Nat
 n : Nat
 g : Nat
 cb : Array Value
 held : World → World → List Nat → σ → Prop
 step : σ → Int → Int × σ
 disk : σ → Nat → List UInt8
 wr : σ → Nat → List UInt8 → σ
 lts : ∀ {w0 w : World} {xs : List Nat} {s : σ} {k : Nat}, held w0 w xs s → k ∈ xs → k < w.heap.size
 below : ∀ {w0 w : World} {xs : List Nat} {s : σ}, held w0 w xs s → Below w0.heap.size w0 w
 mindNew : ∀ {w0 w w' : World} {xs ys : List Nat} {s : σ}, held w0 w xs s → Below w.heap.size w w' → (∀ k ∈ ys, k ∈ xs ∨ (w.heap.size ≤ k ∧ k < w'.heap.size)) → held w0 w' ys s
 writeL : ∀ {w0 w w' : World} {xs ys Z : List Nat} {s : σ}, held w0 w xs s → (∀ k ∈ Z, k ∈ xs ∧ w0.heap.size ≤ k) → Off Z w w' → (∀ k ∈ ys, k ∈ xs ∨ (w.heap.size ≤ k ∧ k < w'.heap.size)) → held w0 w' ys s
 d512 : ∀ {w0 w : World} {xs : List Nat} {s : σ} {i : Nat}, held w0 w xs s → i < n → (disk s i).length = 512
 enters : ∀ args w, (callFunc g args).run Tryz.prog w = .ok (.enter g args) w
 force : ∀ {w0 w : World} {xs : List Nat} {s : σ} {l : Int}, held w0 w xs s → -9223372036854775808 ≤ l → l ≤ 9223372036854775807 → Calls Tryz.prog g (#[.int .i64 l] ++ cb) w fun e w' =>
  e = .returned (.int .i64 (step s l).1) ∧ held w0 w' xs (step s l).2 ∧ Kept xs w w'
 pages : ∀ {w0 w : World} {xs : List Nat} {s : σ}, held w0 w xs s → Calls Tryz.prog 123 #[.pointer (some ⟨q, 0, none⟩)] w fun e w' => e = .returned (.int .i64 (n : Int)) ∧ w' = w
 fread : ∀ {w0 w : World} {xs : List Nat} {s : σ} {i : Nat}, held w0 w xs s → i < n → Calls Tryz.prog 94 #[.pointer (some ⟨q, 0, none⟩), .int .i64 (i : Int)] w fun e w' =>
  ∃ g, e = .returned (.tuple #[.slice (some ⟨g, 0, none⟩) 512 512, .int .i64 0]) ∧ w.heap.size ≤ g ∧ w'.heap[g]? = some (.cells (secCells (disk s i)).toArray 5 (0, 0)) ∧ held w0 w' (g :: xs) s ∧ Kept xs w w'
 fwrite : ∀ {w0 w : World} {xs : List Nat} {s : σ} {i b c : Nat} {bs : List UInt8}, held w0 w xs s → bs.length = 512 → 512 ≤ c → b ∈ xs → SrcAt w b 0 bs → i < n →
  Calls Tryz.prog 116 #[.pointer (some ⟨q, 0, none⟩), .int .i64 (i : Int), .slice (some ⟨b, 0, none⟩) 512 c] w fun e w' => e = .returned (.int .i64 0) ∧ held w0 w' xs (wr s i bs) ∧ Kept xs w w'
def Back.fv (Φ : Back) : Value := .func (.func Φ.g) #[] Φ.cb
theorem Back.belowW (Φ : Back) {w0 w w' : World} {xs : List Nat} {s : Φ.σ} (h : Φ.held w0 w xs s) (hb : Below w.heap.size w w') : Φ.held w0 w' xs s := Φ.mindNew h hb (fun _ hk => .inl hk)
theorem Back.mind (Φ : Back) {w0 w : World} {xs ys : List Nat} {s : Φ.σ} (h : Φ.held w0 w xs s) (hy : ∀ k ∈ ys, k ∈ xs) : Φ.held w0 w ys s := Φ.mindNew h (Below.refl _ _) (fun k hk => .inl (hy k hk))

structure Pl (σ : Type) where
 fs : List Fm
 hand : Nat
 wr : Nat
 fo : σ
def BytesOk (w : World) (bl : List Nat) (f : Fm) (v : Value) : Prop :=
 (f.bs = [] ∧ v = .slice none 0 0) ∨ ∃ g c, v = .slice (some ⟨g, 0, none⟩) 512 c ∧ 512 ≤ c ∧ f.bs.length = 512 ∧ g ∈ bl ∧ SrcAt w g 0 f.bs
theorem BytesOk.one {w : World} {bl : List Nat} {f : Fm} {v : Value} (h : BytesOk w bl f v) : v.oneCell' = true := by
 rcases h with ⟨_, rfl⟩ | ⟨g, c, rfl, _⟩ <;> rfl
theorem BytesOk.stay {w w' : World} {bl bl' : List Nat} {f f' : Fm} {v : Value} (h : BytesOk w bl f v) (hf : f'.bs = f.bs) (hs : w.heap.size ≤ w'.heap.size) (hb : ∀ k ∈ bl, k ∈ bl' ∧ w'.heap[k]? = w.heap[k]?) : BytesOk w' bl' f' v := by
 rcases h with ⟨h1, h2⟩ | ⟨g, c, h1, h2, h3, h4, h5⟩
 · exact .inl ⟨by rw [hf, h1], h2⟩
 · exact .inr ⟨g, c, h1, h2, by rw [hf]; exact h3, (hb g h4).1, by rw [hf]; exact h5.of hs (hb g h4).2⟩

structure PoolIs (Φ : Back) (w0 w : World) (P G : Nat) (xs bl : List Nat) (vs : List Value) (S : Pl Φ.σ) : Prop where
 bk : Φ.held w0 w (P :: G :: (bl ++ xs)) S.fo
 head : w.heap[P]? = some (.cells #[.pointer (some ⟨Φ.q, 0, none⟩), Φ.fv, .slice (some ⟨G, 0, none⟩) S.fs.length S.fs.length, .int .i64 (S.hand : Int), .int .i64 (S.wr : Int)] 147 (0, 0))
 row : w.heap[G]? = some (.cells (rowF S.fs vs).toArray 132 (0, 0))
 vlen : vs.length = S.fs.length
 byt : ∀ (i : Nat) (f : Fm) (v : Value), S.fs[i]? = some f → vs[i]? = some v → BytesOk w bl f v
 pg : P ≠ G
 pb : P ∉ bl ++ xs
 gb : G ∉ bl ++ xs
 bx : ∀ k ∈ bl, k ∉ xs
 p0 : w0.heap.size ≤ P
 g0 : w0.heap.size ≤ G
 f1 : 1 ≤ S.fs.length
 f2 : S.fs.length ≤ 64
 hand : S.hand < S.fs.length
 lsn : ∀ f ∈ S.fs, -9223372036854775808 ≤ f.lsn ∧ f.lsn ≤ 9223372036854775807
def PoolAt (Φ : Back) (w0 w : World) (P G : Nat) (xs : List Nat) (S : Pl Φ.σ) : Prop := ∃ bl vs, PoolIs Φ w0 w P G xs bl vs S

section
variable {Φ : Back} {w0 w w' : World} {P G : Nat} {xs bl : List Nat} {vs : List Value} {S : Pl Φ.σ}
theorem PoolIs.P_mem (h : PoolIs Φ w0 w P G xs bl vs S) : P ∈ P :: G :: (bl ++ xs) := by simp
theorem PoolIs.G_mem (h : PoolIs Φ w0 w P G xs bl vs S) : G ∈ P :: G :: (bl ++ xs) := by simp
theorem PoolIs.kept (h : PoolIs Φ w0 w P G xs bl vs S) (s : Φ.σ) (hF : Φ.held w0 w' (P :: G :: (bl ++ xs)) s) (hK : Kept (P :: G :: (bl ++ xs)) w w') : PoolIs Φ w0 w' P G xs bl vs { S with fo := s } :=
 { h with
   bk := hF
   head := (hK.2 P (by simp)).trans h.head
   row := (hK.2 G (by simp)).trans h.row
   byt := fun i f v h1 h2 => (h.byt i f v h1 h2).stay rfl hK.1 (fun k hk' => ⟨hk', hK.2 k (by simp [hk'])⟩) }
theorem PoolIs.belowW (h : PoolIs Φ w0 w P G xs bl vs S) (hb : Below w.heap.size w w') : PoolIs Φ w0 w' P G xs bl vs S :=
 h.kept S.fo (Φ.belowW h.bk hb) ⟨hb.size, fun k hk => hb.block k (Φ.lts h.bk hk)⟩
theorem PoolIs.moreB (h : PoolIs Φ w0 w P G xs bl vs S) (g : Nat) (hb : Below w.heap.size w w') (h1 : w.heap.size ≤ g) (h2 : g < w'.heap.size) : PoolIs Φ w0 w' P G xs (g :: bl) vs S := by
 have y := h.belowW hb
 have hP := Φ.lts h.bk h.P_mem
 have hG := Φ.lts h.bk h.G_mem
 have hX : ∀ k ∈ xs, k < w.heap.size := fun k hk => Φ.lts h.bk (by simp [hk])
 exact { y with
  bk := Φ.mindNew h.bk hb (fun k hk => by
   simp only [List.mem_cons, List.cons_append] at hk ⊢
   rcases hk with h3 | h3 | h3 | h3
   · exact .inl (.inl h3)
   · exact .inl (.inr (.inl h3))
   · subst h3; exact .inr ⟨h1, h2⟩
   · exact .inl (.inr (.inr h3)))
  byt := fun i f v a b => (y.byt i f v a b).stay rfl (Nat.le_refl _) (fun k hk => ⟨by simp [hk], rfl⟩)
  pb := fun hm => by
   simp only [List.cons_append, List.mem_cons] at hm
   rcases hm with h3 | h3
   · omega
   · exact h.pb h3
  gb := fun hm => by
   simp only [List.cons_append, List.mem_cons] at hm
   rcases hm with h3 | h3
   · omega
   · exact h.gb h3
  bx := fun k hk hm => by
   rcases List.mem_cons.1 hk with h3 | h3
   · have := hX k hm; omega
   · exact h.bx k h3 hm }
theorem PoolIs.setG (h : PoolIs Φ w0 w P G xs bl vs S) (i : Nat) (f' : Fm) (v' : Value) (hi : i < S.fs.length) (hO : Off [G] w w') (hr : w'.heap[G]? = some (.cells (rowF (S.fs.set i f') (vs.set i v')).toArray 132 (0, 0)))
 (hB : BytesOk w bl f' v') (hl : -9223372036854775808 ≤ f'.lsn ∧ f'.lsn ≤ 9223372036854775807) : PoolIs Φ w0 w' P G xs bl (vs.set i v') { S with fs := S.fs.set i f' } := by
 have hk : ∀ k, k ≠ G → k ∈ P :: G :: (bl ++ xs) → w'.heap[k]? = w.heap[k]? := fun k hn hm => hO.block k (Φ.lts h.bk hm) (by simpa using hn)
 have hbl : ∀ k ∈ bl, w'.heap[k]? = w.heap[k]? := fun k hm => hk k (fun e => h.gb (by rw [← e]; simp [hm])) (by simp [hm])
 exact { h with
  bk := Φ.writeL h.bk (fun k hk' => by simp only [List.mem_singleton] at hk'; subst hk'; exact ⟨h.G_mem, h.g0⟩) hO (fun k hk => .inl hk)
  head := by
   rw [hk P h.pg (by simp), h.head]
   simp
  row := hr
  vlen := by simp [h.vlen]
  byt := fun j f v h1 h2 => by
   by_cases e : i = j
   · subst e
     rw [List.getElem?_set_self (by exact hi)] at h1
     rw [List.getElem?_set_self (by rw [h.vlen]; exact hi)] at h2
     cases h1; cases h2
     exact hB.stay rfl hO.size (fun k hm => ⟨hm, hbl k hm⟩)
   · rw [List.getElem?_set_ne e] at h1 h2
     exact (h.byt j f v h1 h2).stay rfl hO.size (fun k hm => ⟨hm, hbl k hm⟩)
  f1 := by simp only [List.length_set]; exact h.f1
  f2 := by simp only [List.length_set]; exact h.f2
  hand := by simp only [List.length_set]; exact h.hand
  lsn := fun f hf => by
   rcases List.mem_or_eq_of_mem_set hf with h1 | h1
   · exact h.lsn f h1
   · rw [h1]; exact hl }
theorem PoolIs.setP (h : PoolIs Φ w0 w P G xs bl vs S) (hand wr : Nat) (hO : Off [P] w w') (hr : w'.heap[P]? = some (.cells #[.pointer (some ⟨Φ.q, 0, none⟩), Φ.fv, .slice (some ⟨G, 0, none⟩) S.fs.length S.fs.length, .int .i64 (hand : Int), .int .i64 (wr : Int)] 147 (0, 0)))
 (hh : hand < S.fs.length) : PoolIs Φ w0 w' P G xs bl vs { S with hand := hand, wr := wr } := by
 have hk : ∀ k, k ≠ P → k ∈ P :: G :: (bl ++ xs) → w'.heap[k]? = w.heap[k]? := fun k hn hm => hO.block k (Φ.lts h.bk hm) (by simpa using hn)
 exact { h with
  bk := Φ.writeL h.bk (fun k hk' => by simp only [List.mem_singleton] at hk'; subst hk'; exact ⟨h.P_mem, h.p0⟩) hO (fun k hk => .inl hk)
  head := hr
  row := (hk G (Ne.symm h.pg) (by simp)).trans h.row
  byt := fun i f v h1 h2 => (h.byt i f v h1 h2).stay rfl hO.size (fun k hm => ⟨hm, hk k (fun e => h.pb (by rw [← e]; simp [hm])) (by simp [hm])⟩)
  hand := hh }
theorem PoolIs.at (h : PoolIs Φ w0 w P G xs bl vs S) : PoolAt Φ w0 w P G xs S := ⟨_, _, h⟩
theorem PoolAt.belowW (h : PoolAt Φ w0 w P G xs S) (hb : Below w.heap.size w w') : PoolAt Φ w0 w' P G xs S := let ⟨_, _, x⟩ := h; (x.belowW hb).at
theorem PoolAt.below (h : PoolAt Φ w0 w P G xs S) : Below w0.heap.size w0 w := let ⟨_, _, x⟩ := h; Φ.below x.bk
theorem PoolIs.mindNew (h : PoolIs Φ w0 w P G xs bl vs S) (hb : Below w.heap.size w w') {ys : List Nat} (hy : ∀ k ∈ ys, k ∈ xs ∨ (w.heap.size ≤ k ∧ k < w'.heap.size)) : PoolIs Φ w0 w' P G ys bl vs S := by
 have y := h.belowW hb
 have lt : ∀ k ∈ P :: G :: (bl ++ xs), k < w.heap.size := fun k hk => Φ.lts h.bk hk
 exact { y with
  bk := Φ.mindNew h.bk hb (fun k hm => by
   simp only [List.mem_cons, List.mem_append] at hm ⊢
   rcases hm with h3 | h3 | h3 | h3
   · exact .inl (.inl h3)
   · exact .inl (.inr (.inl h3))
   · exact .inl (.inr (.inr (.inl h3)))
   · rcases hy k h3 with h4 | h4
     · exact .inl (.inr (.inr (.inr h4)))
     · exact .inr h4)
  pb := fun hm => by
   simp only [List.mem_append] at hm
   rcases hm with h3 | h3
   · exact h.pb (by simp [h3])
   · rcases hy P h3 with h4 | h4
     · exact h.pb (by simp [h4])
     · have := lt P (by simp); omega
  gb := fun hm => by
   simp only [List.mem_append] at hm
   rcases hm with h3 | h3
   · exact h.gb (by simp [h3])
   · rcases hy G h3 with h4 | h4
     · exact h.gb (by simp [h4])
     · have := lt G (by simp); omega
  bx := fun k hk hm => by
   rcases hy k hm with h4 | h4
   · exact h.bx k hk h4
   · have := lt k (by simp [hk]); omega }
theorem PoolAt.mindNew (h : PoolAt Φ w0 w P G xs S) (hb : Below w.heap.size w w') {ys : List Nat} (hy : ∀ k ∈ ys, k ∈ xs ∨ (w.heap.size ≤ k ∧ k < w'.heap.size)) : PoolAt Φ w0 w' P G ys S := let ⟨_, _, x⟩ := h; (x.mindNew hb hy).at
theorem PoolAt.mind (h : PoolAt Φ w0 w P G xs S) {ys : List Nat} (hy : ∀ k ∈ ys, k ∈ xs) : PoolAt Φ w0 w P G ys S := h.mindNew (Below.refl _ _) (fun k hk => .inl (hy k hk))
theorem PoolAt.lts (h : PoolAt Φ w0 w P G xs S) {k : Nat} (hk : k ∈ xs) : k < w.heap.size := let ⟨_, _, x⟩ := h; Φ.lts x.bk (by simp [hk])
theorem PoolAt.writeNew (h : PoolAt Φ w0 w P G xs S) {Z ys : List Nat} (hZ : ∀ k ∈ Z, k ∈ xs ∧ w0.heap.size ≤ k) (hO : Off Z w w') (hy : ∀ k ∈ ys, k ∈ xs ∨ (w.heap.size ≤ k ∧ k < w'.heap.size)) : PoolAt Φ w0 w' P G ys S := by
 obtain ⟨bl, vs, h⟩ := h
 have lt : ∀ k ∈ P :: G :: (bl ++ xs), k < w.heap.size := fun k hk => Φ.lts h.bk hk
 have hk : ∀ k, k ∉ xs → k ∈ P :: G :: (bl ++ xs) → w'.heap[k]? = w.heap[k]? := fun k hn hm => hO.block k (Φ.lts h.bk hm) (fun hz => hn (hZ k hz).1)
 exact PoolIs.at (bl := bl) (vs := vs) { h with
  bk := Φ.writeL h.bk (fun k hk' => ⟨by simp [(hZ k hk').1], (hZ k hk').2⟩) hO (fun k hm => by
   simp only [List.mem_cons, List.mem_append] at hm ⊢
   rcases hm with h3 | h3 | h3 | h3
   · exact .inl (.inl h3)
   · exact .inl (.inr (.inl h3))
   · exact .inl (.inr (.inr (.inl h3)))
   · rcases hy k h3 with h4 | h4
     · exact .inl (.inr (.inr (.inr h4)))
     · exact .inr h4)
  head := (hk P (fun e => h.pb (by simp [e])) (by simp)).trans h.head
  row := (hk G (fun e => h.gb (by simp [e])) (by simp)).trans h.row
  byt := fun i f v h1 h2 => (h.byt i f v h1 h2).stay rfl hO.size (fun k hm => ⟨hm, hk k (h.bx k hm) (by simp [hm])⟩)
  pb := fun hm => by
   simp only [List.mem_append] at hm
   rcases hm with h3 | h3
   · exact h.pb (by simp [h3])
   · rcases hy P h3 with h4 | h4
     · exact h.pb (by simp [h4])
     · have := lt P (by simp); omega
  gb := fun hm => by
   simp only [List.mem_append] at hm
   rcases hm with h3 | h3
   · exact h.gb (by simp [h3])
   · rcases hy G h3 with h4 | h4
     · exact h.gb (by simp [h4])
     · have := lt G (by simp); omega
  bx := fun k hk hm => by
   rcases hy k hm with h4 | h4
   · exact h.bx k hk h4
   · have := lt k (by simp [hk]); omega }
theorem PoolAt.writeL (h : PoolAt Φ w0 w P G xs S) {Z : List Nat} (hZ : ∀ k ∈ Z, k ∈ xs ∧ w0.heap.size ≤ k) (hO : Off Z w w') : PoolAt Φ w0 w' P G xs S := h.writeNew hZ hO (fun k hk => .inl hk)
theorem PoolAt.write (h : PoolAt Φ w0 w P G xs S) {g : Nat} (hg : g ∈ xs) (hg0 : w0.heap.size ≤ g) (hO : Off [g] w w') : PoolAt Φ w0 w' P G xs S :=
 h.writeL (fun k hk => by simp only [List.mem_singleton] at hk; subst hk; exact ⟨hg, hg0⟩) hO

theorem PoolIs.c0 (h : PoolIs Φ w0 w P G xs bl vs S) : w.cell? ⟨P, 0, none⟩ = some (.pointer (some ⟨Φ.q, 0, none⟩)) := by rw [cell_of_row w P 0 _ _ _ h.head]; rfl
theorem PoolIs.c1 (h : PoolIs Φ w0 w P G xs bl vs S) : w.cell? ⟨P, 1, none⟩ = some Φ.fv := by rw [cell_of_row w P 1 _ _ _ h.head]; rfl
theorem PoolIs.c2 (h : PoolIs Φ w0 w P G xs bl vs S) : w.cell? ⟨P, 2, none⟩ = some (.slice (some ⟨G, 0, none⟩) S.fs.length S.fs.length) := by rw [cell_of_row w P 2 _ _ _ h.head]; rfl
theorem PoolIs.c3 (h : PoolIs Φ w0 w P G xs bl vs S) : w.cell? ⟨P, 3, none⟩ = some (.int .i64 (S.hand : Int)) := by rw [cell_of_row w P 3 _ _ _ h.head]; rfl
theorem PoolIs.c4 (h : PoolIs Φ w0 w P G xs bl vs S) : w.cell? ⟨P, 4, none⟩ = some (.int .i64 (S.wr : Int)) := by rw [cell_of_row w P 4 _ _ _ h.head]; rfl
theorem PoolIs.fzP (h : PoolIs Φ w0 w P G xs bl vs S) (o : Nat) : w.frozen? ⟨P, o, none⟩ = false := frozen_of_row w P o _ _ h.head
theorem PoolIs.fzG (h : PoolIs Φ w0 w P G xs bl vs S) (o : Nat) : w.frozen? ⟨G, o, none⟩ = false := frozen_of_row w G o _ _ h.row
theorem PoolIs.cell (h : PoolIs Φ w0 w P G xs bl vs S) (i : Nat) (f : Fm) (hi : S.fs[i]? = some f) : ∃ v, vs[i]? = some v ∧ BytesOk w bl f v ∧ i < S.fs.length ∧ ∀ k, k < 7 → w.cell? ⟨G, i * 7 + k, none⟩ = (fCells f v)[k]? := by
 obtain ⟨hlt, rfl⟩ := List.getElem?_eq_some_iff.1 hi
 have hv : i < vs.length := by rw [h.vlen]; exact hlt
 refine ⟨vs[i], List.getElem?_eq_getElem hv, h.byt i _ _ hi (List.getElem?_eq_getElem hv), hlt, fun k hk => ?_⟩
 rw [cell_of_row w G _ _ _ _ h.row]
 rw [List.getElem?_toArray]
 exact rowF_get _ _ h.vlen i hlt k hk
end
end Go.Proofs.YteeembildppgmaaGreat
namespace Go.Proofs.YteeembildppgmaaGreat
open Go.RowKit
set_option linter.unusedVariables false
set_option linter.unusedSimpArgs false
def Fm.is (n : Int) (f : Fm) : Bool := f.held && f.page == n
def Pl.find {σ : Type} (S : Pl σ) (n : Int) : Option Nat := S.fs.findIdx? (Fm.is n)
def frAt (G : Nat) : Option Nat → Option Addr
 | some i => some ⟨G, i * 7, none⟩
 | none => none
section
variable {Φ : Back} {w0 w w' : World} {P G : Nat} {xs bl : List Nat} {vs : List Value} {S : Pl Φ.σ}
theorem PoolIs.cells (h : PoolIs Φ w0 w P G xs bl vs S) (i : Nat) (f : Fm) (hi : S.fs[i]? = some f) : ∃ v, vs[i]? = some v ∧ BytesOk w bl f v ∧ i < S.fs.length ∧ w.cell? ⟨G, i * 7, none⟩ = some (.bool f.held) ∧ w.cell? ⟨G, i * 7 + 1, none⟩ = some (.int .i64 f.page) ∧
 w.cell? ⟨G, i * 7 + 2, none⟩ = some v ∧ w.cell? ⟨G, i * 7 + 3, none⟩ = some (.bool f.asked) ∧ w.cell? ⟨G, i * 7 + 4, none⟩ = some (.bool f.dirty) ∧ w.cell? ⟨G, i * 7 + 5, none⟩ = some (.int .i64 f.rlsn) ∧ w.cell? ⟨G, i * 7 + 6, none⟩ = some (.int .i64 f.lsn) := by
 obtain ⟨v, h1, h2, h3, h4⟩ := h.cell i f hi
 exact ⟨v, h1, h2, h3, h4 0 (by omega), h4 1 (by omega), h4 2 (by omega), h4 3 (by omega), h4 4 (by omega), h4 5 (by omega), h4 6 (by omega)⟩
theorem findIdx_yes {α : Type} (pr : α → Bool) (l : List α) (k : Nat) (x : α) (hk : l[k]? = some x) (hx : pr x = true) (hj : ∀ j y, j < k → l[j]? = some y → pr y = false) : l.findIdx? pr = some k := by
 obtain ⟨hlt, rfl⟩ := List.getElem?_eq_some_iff.1 hk
 rw [List.findIdx?_eq_some_iff_getElem]
 exact ⟨hlt, hx, fun j hj' => by rw [hj j _ hj' (List.getElem?_eq_getElem (by omega))]; simp⟩
theorem findIdx_no {α : Type} (pr : α → Bool) (l : List α) (hj : ∀ (j : Nat) y, l[j]? = some y → pr y = false) : l.findIdx? pr = none := by
 rw [List.findIdx?_eq_none_iff]
 intro x hx
 obtain ⟨j, hj'⟩ := List.mem_iff_getElem?.1 hx
 exact hj j x hj'

set_option maxHeartbeats 400000 in
set_option maxRecDepth 100000 in
theorem find_any (h : PoolIs Φ w0 w P G xs bl vs S) (m : Int) :
 Calls Tryz.prog 82 #[.pointer (some ⟨P, 0, none⟩), .int .i64 m] w fun e w' => e = .returned (.pointer (frAt G (S.find m))) ∧ w' = w := by
 have c2 := h.c2
 have hm64 := h.f2
 have H := hide h
 clear h
 go_enter Tryz.func82, Tryz.ntmps82
 go_wp2
 go_loopw [12] (fun i wr => ∃ k : Nat, k ≤ S.fs.length ∧ i = .int .i64 k ∧ (∀ (j : Nat) y, j < k → S.fs[j]? = some y → Fm.is m y = false) ∧ wr = w) (fun i _ => S.fs.length - (intOf i).toNat)
 case atStart => exact ⟨0, by omega, rfl, fun j y hj => by omega, rfl⟩
 case round =>
  obtain ⟨k, hk, rfl, hno, rfl⟩ := hrel
  have HNO := hide hno
  clear hno
  by_cases hlt : k < S.fs.length
  · obtain ⟨f, hf⟩ : ∃ f, S.fs[k]? = some f := ⟨_, List.getElem?_eq_getElem hlt⟩
    obtain ⟨v, hv, hB, _, d0, d1, d2, d3, d4, d5, d6⟩ := H.out.cells k f hf
    clear d2 d3 d4 d5 d6 hB hv
    have HF := hide hf
    clear hf
    obtain ⟨N, hN⟩ : ∃ N, S.fs.length = N := ⟨_, rfl⟩
    rw [hN] at hlt hk c2 hm64
    have HN := hide hN
    clear hN
    by_cases hh : f.held = true
    · by_cases hp : f.page = m
      · rw [hh] at d0
        rw [hp] at d1
        have HR : Hid (S.find m = some k) := findIdx_yes _ _ k f HF.out (by simp [Fm.is, hh, hp]) HNO.out
        go_wp2
        go_ret
        rw [HR.out]
        exact ⟨rfl, rfl⟩
      · rw [hh] at d0
        have hpb : (f.page == m) = false := beq_eq_false_iff_ne.2 hp
        have HX : Hid (Fm.is m f = false) := by show _ = _; simp [Fm.is, hpb]
        generalize f.page = pg at *
        go_wp2
        go_roundw
        case rel =>
         refine ⟨k + 1, by rw [HN.out]; omega, by go_num, fun j y hj hy => ?_, by first | rfl | trivial⟩
         by_cases e : j = k
         · subst e; rw [HF.out] at hy; cases hy; exact HX.out
         · exact HNO.out j y (by omega) hy
        case measure => rw [HN.out]; simp [intOf]; omega
    · have hh' : f.held = false := by simpa using hh
      rw [hh'] at d0
      have HX : Hid (Fm.is m f = false) := by show _ = _; simp [Fm.is, hh']
      clear d1
      go_wp2
      go_roundw
      case rel =>
       refine ⟨k + 1, by rw [HN.out]; omega, by go_num, fun j y hj hy => ?_, by first | rfl | trivial⟩
       by_cases e : j = k
       · subst e; rw [HF.out] at hy; cases hy; exact HX.out
       · exact HNO.out j y (by omega) hy
      case measure => rw [HN.out]; simp [intOf]; omega
  · have hk' : k = S.fs.length := by omega
    have HR : Hid (S.find m = none) := findIdx_no _ _ (fun j y hy => HNO.out j y (by have := (List.getElem?_eq_some_iff.1 hy).1; omega) hy)
    go_wp2
    go_ret
    rw [HR.out]
    exact ⟨rfl, rfl⟩
end
end Go.Proofs.YteeembildppgmaaGreat
namespace Go.Proofs
open Go.Shelf
def Tryz.sortD_ren : Go.Shelf.Ren := ⟨fun | 6 => 117 | 15 => 147 | 14 => 146 | 28 => 176 | 29 => 177 | 20 => 168 | 21 => 169 | 22 => 170 | 23 => 171 | 24 => 172 | 25 => 173 | 26 => 174 | 27 => 175 | 46 => 192 | 47 => 193 | 48 => 194 | 49 => 195 | 50 => 196 | 57 => 211 | n => n, fun | 22 => 67 | 24 => 142 | 25 => 176 | 3 => 3 | 39 => 188 | 0 => 0 | 53 => 234 | 55 => 177 | 4 => 4 | 46 => 228 | 45 => 227 | 50 => 160 | 5 => 5 | 9 => 9 | 66 => 254 | 70 => 159 | 76 => 273 | 77 => 44 | n => n, fun | n => n⟩
theorem Tryz.sortD : Go.Proofs.SlLaysF0.n6 Tryz.prog Tryz.sortD_ren := {
 mixed := by kernel_rfl
 f6 := ⟨Tryz.f117.name, by decide, Tryz.func117.trans (congrArg some (by kernel_rfl))⟩
 f14 := ⟨Tryz.f146.name, by decide, Tryz.func146.trans (congrArg some (by kernel_rfl))⟩
 f15 := Tryz.func147.trans (congrArg some (by kernel_rfl))
 f20 := ⟨Tryz.f168.name, by decide, Tryz.func168.trans (congrArg some (by kernel_rfl))⟩
 f21 := ⟨Tryz.f169.name, by decide, Tryz.func169.trans (congrArg some (by kernel_rfl))⟩
 f22 := ⟨Tryz.f170.name, by decide, Tryz.func170.trans (congrArg some (by kernel_rfl))⟩
 f23 := ⟨Tryz.f171.name, by decide, Tryz.func171.trans (congrArg some (by kernel_rfl))⟩
 f24 := ⟨Tryz.f172.name, by decide, Tryz.func172.trans (congrArg some (by kernel_rfl))⟩
 f25 := ⟨Tryz.f173.name, by decide, Tryz.func173.trans (congrArg some (by kernel_rfl))⟩
 f26 := ⟨Tryz.f174.name, by decide, Tryz.func174.trans (congrArg some (by kernel_rfl))⟩
 f27 := ⟨Tryz.f175.name, by decide, Tryz.func175.trans (congrArg some (by kernel_rfl))⟩
 f28 := Tryz.func176.trans (congrArg some (by kernel_rfl))
 f29 := Tryz.func177.trans (congrArg some (by kernel_rfl))
 f46 := ⟨Tryz.f192.name, by decide, Tryz.func192.trans (congrArg some (by kernel_rfl))⟩
 f47 := Tryz.func193.trans (congrArg some (by kernel_rfl))
 f48 := Tryz.func194.trans (congrArg some (by kernel_rfl))
 f49 := ⟨Tryz.f195.name, by decide, Tryz.func195.trans (congrArg some (by kernel_rfl))⟩
 f50 := ⟨Tryz.f196.name, by decide, Tryz.func196.trans (congrArg some (by kernel_rfl))⟩
 f57 := ⟨Tryz.f211.name, by decide, Tryz.func211.trans (congrArg some (by kernel_rfl))⟩
 t0 := Tryz.underlying0
 a0 := Tryz.isAgg0
 z0 := Tryz.sizeOf0
 v0 := Tryz.zeroValue0
 t3 := Tryz.underlying3
 a3 := Tryz.isAgg3
 z3 := Tryz.sizeOf3
 v3 := Tryz.zeroValue3
 t4 := Tryz.underlying4
 a4 := Tryz.isAgg4
 z4 := Tryz.sizeOf4
 v4 := Tryz.zeroValue4
 t5 := Tryz.underlying5
 a5 := Tryz.isAgg5
 z5 := Tryz.sizeOf5
 v5 := Tryz.zeroValue5
 t9 := Tryz.underlying9
 a9 := Tryz.isAgg9
 z9 := Tryz.sizeOf9
 v9 := Tryz.zeroValue9
 t22 := Tryz.underlying67
 a22 := Tryz.isAgg67
 z22 := Tryz.sizeOf67
 v22 := Tryz.zeroValue67
 t25 := Tryz.underlying176
 a25 := Tryz.isAgg176
 z25 := Tryz.sizeOf176
 v25 := Tryz.zeroValue176
 t39 := Tryz.underlying188
 a39 := Tryz.isAgg188
 z39 := Tryz.sizeOf188
 v39 := Tryz.zeroValue188
 t45 := Tryz.underlying227
 a45 := Tryz.isAgg227
 z45 := Tryz.sizeOf227
 v45 := Tryz.zeroValue227
 t46 := Tryz.underlying228
 a46 := Tryz.isAgg228
 z46 := Tryz.sizeOf228
 v46 := Tryz.zeroValue228
 t50 := Tryz.underlying160
 a50 := Tryz.isAgg160
 z50 := Tryz.sizeOf160
 v50 := Tryz.zeroValue160
 t53 := Tryz.underlying234
 a53 := Tryz.isAgg234
 z53 := Tryz.sizeOf234
 v53 := Tryz.zeroValue234
 t55 := Tryz.underlying177
 a55 := Tryz.isAgg177
 z55 := Tryz.sizeOf177
 v55 := Tryz.zeroValue177
 t66 := Tryz.underlying254
 a66 := Tryz.isAgg254
 z66 := Tryz.sizeOf254
 v66 := Tryz.zeroValue254
 t70 := Tryz.underlying159
 a70 := Tryz.isAgg159
 z70 := Tryz.sizeOf159
 v70 := Tryz.zeroValue159
 t76 := Tryz.underlying273
 a76 := Tryz.isAgg273
 z76 := Tryz.sizeOf273
 v76 := Tryz.zeroValue273
 t77 := Tryz.underlying44
 a77 := Tryz.isAgg44
 z77 := Tryz.sizeOf44
 v77 := Tryz.zeroValue44 }
def Tryz.cmpInt_ren : Go.Shelf.Ren := ⟨fun | 5 => 119 | 7 => 148 | n => n, fun | 22 => 3 | 3 => 3 | 4 => 4 | n => n, fun | n => n⟩
theorem Tryz.cmpInt : Go.Proofs.SlLaysC2.n5 Tryz.prog Tryz.cmpInt_ren := {
 mixed := by kernel_rfl
 f5 := ⟨Tryz.f119.name, by decide, Tryz.func119.trans (congrArg some (by kernel_rfl))⟩
 f7 := ⟨Tryz.f148.name, by decide, Tryz.func148.trans (congrArg some (by kernel_rfl))⟩
 t3 := Tryz.underlying3
 a3 := Tryz.isAgg3
 z3 := Tryz.sizeOf3
 v3 := Tryz.zeroValue3
 t4 := Tryz.underlying4
 a4 := Tryz.isAgg4
 z4 := Tryz.sizeOf4
 v4 := Tryz.zeroValue4
 t22 := Tryz.underlying3
 a22 := Tryz.isAgg3
 z22 := Tryz.sizeOf3
 v22 := Tryz.zeroValue3 }
def Tryz.bitsLen_ren : Go.Shelf.Ren := ⟨fun | 125 => 147 | 128 => 176 | 129 => 177 | n => n, fun | 46 => 188 | 3 => 3 | 51 => 234 | 53 => 177 | 4 => 4 | 5 => 5 | 9 => 9 | n => n, fun | n => n⟩
theorem Tryz.bitsLen : Go.Proofs.Lays.n125 Tryz.prog Tryz.bitsLen_ren := {
 mixed := by kernel_rfl
 f125 := Tryz.func147.trans (congrArg some (by kernel_rfl))
 f128 := Tryz.func176.trans (congrArg some (by kernel_rfl))
 f129 := Tryz.func177.trans (congrArg some (by kernel_rfl))
 t3 := Tryz.underlying3
 a3 := Tryz.isAgg3
 z3 := Tryz.sizeOf3
 v3 := Tryz.zeroValue3
 t4 := Tryz.underlying4
 a4 := Tryz.isAgg4
 z4 := Tryz.sizeOf4
 v4 := Tryz.zeroValue4
 t5 := Tryz.underlying5
 a5 := Tryz.isAgg5
 z5 := Tryz.sizeOf5
 v5 := Tryz.zeroValue5
 t9 := Tryz.underlying9
 a9 := Tryz.isAgg9
 z9 := Tryz.sizeOf9
 v9 := Tryz.zeroValue9
 t46 := Tryz.underlying188
 a46 := Tryz.isAgg188
 z46 := Tryz.sizeOf188
 v46 := Tryz.zeroValue188
 t51 := Tryz.underlying234
 a51 := Tryz.isAgg234
 z51 := Tryz.sizeOf234
 v51 := Tryz.zeroValue234
 t53 := Tryz.underlying177
 a53 := Tryz.isAgg177
 z53 := Tryz.sizeOf177
 v53 := Tryz.zeroValue177 }
def Tryz.cloneB_ren : Go.Shelf.Ren := ⟨fun | 4 => 93 | n => n, fun | 22 => 36 | 4 => 4 | 5 => 5 | n => n, fun | n => n⟩
theorem Tryz.cloneB : Go.Proofs.SlLaysK.n4 Tryz.prog Tryz.cloneB_ren := {
 mixed := by kernel_rfl
 f4 := Tryz.func93.trans (congrArg some (by kernel_rfl))
 t4 := Tryz.underlying4
 a4 := Tryz.isAgg4
 z4 := Tryz.sizeOf4
 v4 := Tryz.zeroValue4
 t22 := Tryz.underlying36
 a22 := Tryz.isAgg36
 z22 := Tryz.sizeOf36
 v22 := Tryz.zeroValue36
 t5 := Tryz.underlying5
 i5 := by kernel_rfl }
end Go.Proofs
