/- Pools: what they are as data, and how they lie in memory. -/
import Derived.Test.YtifoafiidplpiaaFIn
namespace Go.Proofs.Ytifoafiidplpiaa
open Go.RowKit
set_option linter.unusedVariables false
set_option linter.unusedSimpArgs false

/-! ### Frames -/
structure Fm where
  held : Bool
  page : Int
  bs : List UInt8
  asked : Bool
  dirty : Bool
  rlsn : Int
  lsn : Int
def Fm.nil : Fm := ⟨false, 0, [], false, false, 0, 0⟩
def fCells (f : Fm) (v : Value) : List Value := [.bool f.held, .int .i64 f.page, v, .bool f.asked, .bool f.dirty, .int .i64 f.rlsn, .int .i64 f.lsn]
def rowF (fs : List Fm) (vs : List Value) : List Value := (List.zipWith fCells fs vs).flatten
theorem rows7 (fs : List Fm) (vs : List Value) : ∀ x ∈ List.zipWith fCells fs vs, x.length = 7 := by
  intro x hx
  obtain ⟨i, hi, rfl⟩ := List.mem_iff_getElem.1 hx
  rw [List.getElem_zipWith]
  rfl
theorem rowF_length (fs : List Fm) (vs : List Value) (h : vs.length = fs.length) : (rowF fs vs).length = fs.length * 7 := by
  unfold rowF
  rw [flat_length 7 _ (rows7 fs vs), List.length_zipWith, h, Nat.min_self]
theorem rowF_get (fs : List Fm) (vs : List Value) (h : vs.length = fs.length) (i : Nat) (hi : i < fs.length) (k : Nat) (hk : k < 7) : (rowF fs vs)[i * 7 + k]? = (fCells (fs[i]'hi) (vs[i]'(by omega)))[k]? := by
  unfold rowF
  rw [flat_get 7 _ (rows7 fs vs) i (by rw [List.length_zipWith]; omega) k hk, List.getElem_zipWith]
theorem flat_set1 {α : Type} (m : Nat) (v : α) : ∀ (X : List (List α)) (_ : ∀ x ∈ X, x.length = m) (i : Nat) (hi : i < X.length) (j : Nat) (_ : j < m), X.flatten.set (i * m + j) v = (X.set i ((X[i]'hi).set j v)).flatten
  | [], _, i, hi, _, _ => by simp at hi
  | x :: r, h, 0, _, j, hj => by
    have hx : x.length = m := h x (by simp)
    rw [List.flatten_cons, Nat.zero_mul, Nat.zero_add, List.set_append_left _ _ (by omega)]
    rfl
  | x :: r, h, i + 1, hi, j, hj => by
    have hx : x.length = m := h x (by simp)
    rw [List.flatten_cons, List.set_append_right _ _ (by rw [hx, Nat.add_mul]; omega), hx, show (i + 1) * m + j - m = i * m + j by rw [Nat.add_mul]; omega,
      flat_set1 m v r (fun y hy => h y (by simp [hy])) i (by simpa using hi) j hj]
    rfl
theorem zipWith_set {α β γ : Type} (g : α → β → γ) (xs : List α) (bs : List β) (i : Nat) (a : α) (b : β) : (List.zipWith g xs bs).set i (g a b) = List.zipWith g (xs.set i a) (bs.set i b) := by
  apply List.ext_getElem?
  intro k
  rw [List.getElem?_zipWith]
  by_cases e : i = k
  · subst e
    by_cases hl : i < xs.length ∧ i < bs.length
    · rw [List.getElem?_set_self (by rw [List.length_zipWith]; omega), List.getElem?_set_self hl.1, List.getElem?_set_self hl.2]
    · have h1 : ((List.zipWith g xs bs).set i (g a b))[i]? = Option.none := by rw [List.getElem?_eq_none_iff, List.length_set, List.length_zipWith]; omega
      rw [h1]
      by_cases ha : i < xs.length
      · have h2 : (bs.set i b)[i]? = Option.none := by rw [List.getElem?_eq_none_iff, List.length_set]; omega
        rw [h2]
        cases (xs.set i a)[i]? <;> rfl
      · have h2 : (xs.set i a)[i]? = Option.none := by rw [List.getElem?_eq_none_iff, List.length_set]; omega
        rw [h2]
  · rw [List.getElem?_set_ne e, List.getElem?_set_ne e, List.getElem?_set_ne e, List.getElem?_zipWith]
theorem rowF_set1 (fs : List Fm) (vs : List Value) (h : vs.length = fs.length) (i : Nat) (hi : i < fs.length) (k : Nat) (hk : k < 7) (c : Value) (f' : Fm) (v' : Value) (hc : fCells f' v' = (fCells (fs[i]'hi) (vs[i]'(by omega))).set k c) :
    (rowF fs vs).set (i * 7 + k) c = rowF (fs.set i f') (vs.set i v') := by
  unfold rowF
  rw [flat_set1 7 c _ (rows7 fs vs) i (by rw [List.length_zipWith]; omega) k hk, List.getElem_zipWith, ← hc, zipWith_set]
theorem rowF_setAll (fs : List Fm) (vs : List Value) (h : vs.length = fs.length) (i : Nat) (hi : i < fs.length) (f' : Fm) (v' : Value) :
    (rowF fs vs).take (i * 7) ++ fCells f' v' ++ (rowF fs vs).drop (i * 7 + (fCells f' v').length) = rowF (fs.set i f') (vs.set i v') := by
  unfold rowF
  rw [flat_set 7 _ (rows7 fs vs) i (by rw [List.length_zipWith]; omega) _ rfl, zipWith_set]

/-! ### What is asked to force the log -/
structure Force where
  σ : Type
  g : Nat
  cb : Array Value
  held : World → List Nat → σ → Prop
  step : σ → Int → Int × σ
  ok : σ → Prop
  stay : ∀ w w' ff s, held w ff s → w.heap.size ≤ w'.heap.size → (∀ k ∈ ff, w'.heap[k]? = w.heap[k]?) → held w' ff s
  lim : ∀ w ff s, held w ff s → ∀ k ∈ ff, k < w.heap.size
  enters : ∀ args w, (callFunc g args).run Try.prog w = .ok (.enter g args) w
  call : ∀ w ff s l, held w ff s → ok s → -9223372036854775808 ≤ l → l ≤ 9223372036854775807 → Calls Try.prog g (#[.int .i64 l] ++ cb) w fun e w' =>
    e = .returned (.int .i64 (step s l).1) ∧ ∃ ff', held w' ff' (step s l).2 ∧ Off ff w w' ∧ ∀ k ∈ ff', k ∈ ff ∨ w.heap.size ≤ k
def Force.fv (Φ : Force) : Value := .func (.func Φ.g) #[] Φ.cb

/-! ### Pools -/
structure Pl (σ : Type) where
  fs : List Fm
  hand : Nat
  wr : Nat
  disk : List (List UInt8)
  fo : σ
def BytesOk (w : World) (bl : List Nat) (f : Fm) (v : Value) : Prop :=
  (f.bs = [] ∧ v = .slice none 0 0) ∨ ∃ g c, v = .slice (some ⟨g, 0, none⟩) 512 c ∧ 512 ≤ c ∧ f.bs.length = 512 ∧ g ∈ bl ∧ SrcAt w g 0 f.bs
theorem BytesOk.one {w : World} {bl : List Nat} {f : Fm} {v : Value} (h : BytesOk w bl f v) : v.oneCell' = true := by
  rcases h with ⟨_, rfl⟩ | ⟨g, c, rfl, _⟩ <;> rfl
theorem BytesOk.stay {w w' : World} {bl bl' : List Nat} {f f' : Fm} {v : Value} (h : BytesOk w bl f v) (hf : f'.bs = f.bs) (hs : w.heap.size ≤ w'.heap.size) (hb : ∀ k ∈ bl, k ∈ bl' ∧ w'.heap[k]? = w.heap[k]?) : BytesOk w' bl' f' v := by
  rcases h with ⟨h1, h2⟩ | ⟨g, c, h1, h2, h3, h4, h5⟩
  · exact .inl ⟨by rw [hf, h1], h2⟩
  · exact .inr ⟨g, c, h1, h2, by rw [hf]; exact h3, (hb g h4).1, by rw [hf]; exact h5.of hs (hb g h4).2⟩

structure PoolIs (Φ : Force) (w0 w : World) (P G q p n : Nat) (xs bl ff : List Nat) (vs : List Value) (S : Pl Φ.σ) (D : Dv) : Prop where
  fs : Fs w0 w q p 0 n false (P :: G :: (bl ++ (ff ++ xs))) D
  well : D.well
  wnil : D.W = []
  len : 5 + 4 * n ≤ D.L.length
  disk : ∀ i, i < n → pageL D.L (0 + 5 + 4 * i) = S.disk.getD i []
  dlen : S.disk.length = n
  d512 : ∀ i, i < n → (S.disk.getD i []).length = 512
  head : w.heap[P]? = some (.cells #[.pointer (some ⟨q, 0, none⟩), Φ.fv, .slice (some ⟨G, 0, none⟩) S.fs.length S.fs.length, .int .i64 (S.hand : Int), .int .i64 (S.wr : Int)] 77 (0, 0))
  row : w.heap[G]? = some (.cells (rowF S.fs vs).toArray 82 (0, 0))
  vlen : vs.length = S.fs.length
  byt : ∀ (i : Nat) (f : Fm) (v : Value), S.fs[i]? = some f → vs[i]? = some v → BytesOk w bl f v
  pg : P ≠ G
  pb : P ∉ bl ++ (ff ++ xs)
  gb : G ∉ bl ++ (ff ++ xs)
  bx : ∀ k ∈ bl, k ∉ ff ++ xs
  fx : ∀ k ∈ ff, k ∉ xs
  p0 : w0.heap.size ≤ P
  g0 : w0.heap.size ≤ G
  f0 : ∀ k ∈ ff, w0.heap.size ≤ k
  fo : Φ.held w ff S.fo
  f1 : 1 ≤ S.fs.length
  f2 : S.fs.length ≤ 64
  hand : S.hand < S.fs.length
  lsn : ∀ f ∈ S.fs, -9223372036854775808 ≤ f.lsn ∧ f.lsn ≤ 9223372036854775807
def PoolAt (Φ : Force) (w0 w : World) (P G q p n : Nat) (xs : List Nat) (S : Pl Φ.σ) : Prop := ∃ bl ff vs D, PoolIs Φ w0 w P G q p n xs bl ff vs S D

/-- A file stands while blocks that are apart from it are written; new blocks may come. -/
theorem Fs.writeL {w0 w w' : World} {q p fr n : Nat} {failed : Bool} {xs ys Z : List Nat} {D : Dv} (h : Fs w0 w q p fr n failed xs D) (hZ : ∀ k ∈ Z, k ∈ xs ∧ w0.heap.size ≤ k) (hO : Off Z w w') (hy : ∀ k ∈ ys, k ∈ xs ∨ (w.heap.size ≤ k ∧ k < w'.heap.size)) : Fs w0 w' q p fr n failed ys D := by
  obtain ⟨fp, x⟩ := h
  refine ⟨fp, x.fl.off hO (fun hm => x.qx (hZ q hm).1), ⟨x.dv.dev.apart hO (fun k hk hm => (x.dv.xs k (hZ k hm).1).2 hk), x.dv.f0, fun k hk => ?_, ?_⟩, x.nq, x.q0, fun hm => ?_⟩
  · rcases hy k hk with h1 | h1
    · exact ⟨Nat.lt_of_lt_of_le (x.dv.xs k h1).1 hO.size, (x.dv.xs k h1).2⟩
    · exact ⟨h1.2, fun hm => by have := x.dv.dev.lim k hm; omega⟩
  · exact x.dv.below.trans (hO.below x.dv.below.size (fun k hk => (hZ k hk).2))
  · rcases hy q hm with h1 | h1
    · exact x.qx h1
    · have := x.fl.lt; omega
theorem Fs.lts {w0 w : World} {q p fr n : Nat} {failed : Bool} {xs : List Nat} {D : Dv} (h : Fs w0 w q p fr n failed xs D) {k : Nat} (hk : k ∈ xs) : k < w.heap.size := let ⟨_, x⟩ := h; (x.dv.xs k hk).1

section
variable {Φ : Force} {w0 w w' : World} {P G q p n : Nat} {xs bl ff : List Nat} {vs : List Value} {S : Pl Φ.σ} {D D' : Dv}
theorem PoolIs.P_mem (h : PoolIs Φ w0 w P G q p n xs bl ff vs S D) : P ∈ P :: G :: (bl ++ (ff ++ xs)) := by simp
theorem PoolIs.G_mem (h : PoolIs Φ w0 w P G q p n xs bl ff vs S D) : G ∈ P :: G :: (bl ++ (ff ++ xs)) := by simp
theorem PoolIs.belowW (h : PoolIs Φ w0 w P G q p n xs bl ff vs S D) (hb : Below w.heap.size w w') : PoolIs Φ w0 w' P G q p n xs bl ff vs S D :=
  have hk : ∀ k ∈ P :: G :: (bl ++ (ff ++ xs)), w'.heap[k]? = w.heap[k]? := fun k hk => hb.block k (h.fs.lts hk)
  { h with
    fs := h.fs.belowW hb
    head := (hk P (by simp)).trans h.head
    row := (hk G (by simp)).trans h.row
    byt := fun i f v h1 h2 => (h.byt i f v h1 h2).stay rfl hb.size (fun k hk' => ⟨hk', hk k (by simp [hk'])⟩)
    fo := Φ.stay _ _ _ _ h.fo hb.size (fun k hk' => hk k (by simp [hk'])) }
/-- What the file does leaves the rest. -/
theorem PoolIs.kept (h : PoolIs Φ w0 w P G q p n xs bl ff vs S D) (hF : Fs w0 w' q p 0 n false (P :: G :: (bl ++ (ff ++ xs))) D') (hK : Kept (P :: G :: (bl ++ (ff ++ xs))) w w') (hw : D'.well) (hn : D'.W = []) (hl : 5 + 4 * n ≤ D'.L.length)
    (dk : List (List UInt8)) (hd : ∀ i, i < n → pageL D'.L (0 + 5 + 4 * i) = dk.getD i []) (hdl : dk.length = n) (h5 : ∀ i, i < n → (dk.getD i []).length = 512) : PoolIs Φ w0 w' P G q p n xs bl ff vs { S with disk := dk } D' :=
  { h with
    fs := hF
    well := hw
    wnil := hn
    len := hl
    disk := hd
    dlen := hdl
    d512 := h5
    head := (hK.2 P (by simp)).trans h.head
    row := (hK.2 G (by simp)).trans h.row
    byt := fun i f v h1 h2 => (h.byt i f v h1 h2).stay rfl hK.1 (fun k hk' => ⟨hk', hK.2 k (by simp [hk'])⟩)
    fo := Φ.stay _ _ _ _ h.fo hK.1 (fun k hk' => hK.2 k (by simp [hk'])) }
/-- More blocks that hold bytes. -/
theorem PoolIs.moreB (h : PoolIs Φ w0 w P G q p n xs bl ff vs S D) (g : Nat) (hb : Below w.heap.size w w') (h1 : w.heap.size ≤ g) (h2 : g < w'.heap.size) : PoolIs Φ w0 w' P G q p n xs (g :: bl) ff vs S D := by
  have y := h.belowW hb
  have hP := h.fs.lts h.P_mem
  have hG := h.fs.lts h.G_mem
  have hX : ∀ k ∈ ff ++ xs, k < w.heap.size := fun k hk => h.fs.lts (by simp only [List.mem_cons, List.mem_append]; right; right; right; simpa using hk)
  exact { y with
    fs := h.fs.mindNew hb (fun k hk => by
      simp only [List.mem_cons, List.cons_append] at hk ⊢
      rcases hk with h3 | h3 | h3 | h3
      · exact .inl (.inl h3)
      · exact .inl (.inr (.inl h3))
      · subst h3; exact .inr ⟨h1, h2⟩
      · exact .inl (.inr (.inr h3)))
    byt := fun i f v a b => (y.byt i f v a b).stay rfl (Nat.le_refl _) (fun k hk => ⟨by simp [hk], rfl⟩)
    pb := fun hm => by
      simp only [List.cons_append, List.mem_cons] at hm
      rcases hm with h3 | h3
      · omega
      · exact h.pb h3
    gb := fun hm => by
      simp only [List.cons_append, List.mem_cons] at hm
      rcases hm with h3 | h3
      · omega
      · exact h.gb h3
    bx := fun k hk hm => by
      rcases List.mem_cons.1 hk with h3 | h3
      · have := hX k hm; omega
      · exact h.bx k h3 hm }
/-- The frames' row is written. -/
theorem PoolIs.setG (h : PoolIs Φ w0 w P G q p n xs bl ff vs S D) (i : Nat) (f' : Fm) (v' : Value) (hi : i < S.fs.length) (hO : Off [G] w w') (hr : w'.heap[G]? = some (.cells (rowF (S.fs.set i f') (vs.set i v')).toArray 82 (0, 0)))
    (hB : BytesOk w bl f' v') (hl : -9223372036854775808 ≤ f'.lsn ∧ f'.lsn ≤ 9223372036854775807) : PoolIs Φ w0 w' P G q p n xs bl ff (vs.set i v') { S with fs := S.fs.set i f' } D := by
  have hk : ∀ k, k ≠ G → k ∈ P :: G :: (bl ++ (ff ++ xs)) → w'.heap[k]? = w.heap[k]? := fun k hn hm => hO.block k (h.fs.lts hm) (by simpa using hn)
  have hbl : ∀ k ∈ bl, w'.heap[k]? = w.heap[k]? := fun k hm => hk k (fun e => h.gb (by rw [← e]; simp [hm])) (by simp [hm])
  exact { h with
    fs := h.fs.write (h.G_mem) h.g0 hO
    head := by
      rw [hk P h.pg (by simp), h.head]
      simp
    row := hr
    vlen := by simp [h.vlen]
    byt := fun j f v h1 h2 => by
      by_cases e : i = j
      · subst e
        rw [List.getElem?_set_self (by exact hi)] at h1
        rw [List.getElem?_set_self (by rw [h.vlen]; exact hi)] at h2
        cases h1; cases h2
        exact hB.stay rfl hO.size (fun k hm => ⟨hm, hbl k hm⟩)
      · rw [List.getElem?_set_ne e] at h1 h2
        exact (h.byt j f v h1 h2).stay rfl hO.size (fun k hm => ⟨hm, hbl k hm⟩)
    fo := Φ.stay _ _ _ _ h.fo hO.size (fun k hm => hk k (fun e => h.gb (by rw [← e]; simp [hm])) (by simp [hm]))
    f1 := by simp only [List.length_set]; exact h.f1
    f2 := by simp only [List.length_set]; exact h.f2
    hand := by simp only [List.length_set]; exact h.hand
    lsn := fun f hf => by
      rcases List.mem_or_eq_of_mem_set hf with h1 | h1
      · exact h.lsn f h1
      · rw [h1]; exact hl }
/-- The pool's own block is written. -/
theorem PoolIs.setP (h : PoolIs Φ w0 w P G q p n xs bl ff vs S D) (hand wr : Nat) (hO : Off [P] w w') (hr : w'.heap[P]? = some (.cells #[.pointer (some ⟨q, 0, none⟩), Φ.fv, .slice (some ⟨G, 0, none⟩) S.fs.length S.fs.length, .int .i64 (hand : Int), .int .i64 (wr : Int)] 77 (0, 0)))
    (hh : hand < S.fs.length) : PoolIs Φ w0 w' P G q p n xs bl ff vs { S with hand := hand, wr := wr } D := by
  have hk : ∀ k, k ≠ P → k ∈ P :: G :: (bl ++ (ff ++ xs)) → w'.heap[k]? = w.heap[k]? := fun k hn hm => hO.block k (h.fs.lts hm) (by simpa using hn)
  exact { h with
    fs := h.fs.write (h.P_mem) h.p0 hO
    head := hr
    row := (hk G (Ne.symm h.pg) (by simp)).trans h.row
    byt := fun i f v h1 h2 => (h.byt i f v h1 h2).stay rfl hO.size (fun k hm => ⟨hm, hk k (fun e => h.pb (by rw [← e]; simp [hm])) (by simp [hm])⟩)
    fo := Φ.stay _ _ _ _ h.fo hO.size (fun k hm => hk k (fun e => h.pb (by rw [← e]; simp [hm])) (by simp [hm]))
    hand := hh }
/-- Force was asked. -/
theorem PoolIs.asked (h : PoolIs Φ w0 w P G q p n xs bl ff vs S D) (ff' : List Nat) (s : Φ.σ) (hs : Φ.held w' ff' s) (hO : Off ff w w') (hf : ∀ k ∈ ff', k ∈ ff ∨ w.heap.size ≤ k) : PoolIs Φ w0 w' P G q p n xs bl ff' vs { S with fo := s } D := by
  have hk : ∀ k, k ∉ ff → k ∈ P :: G :: (bl ++ (ff ++ xs)) → w'.heap[k]? = w.heap[k]? := fun k hn hm => hO.block k (h.fs.lts hm) hn
  have nP : P ∉ ff := fun hm => h.pb (by simp [hm])
  have nG : G ∉ ff := fun hm => h.gb (by simp [hm])
  have nB : ∀ k ∈ bl, k ∉ ff := fun k hk hm => h.bx k hk (by simp [hm])
  have lB : ∀ k ∈ bl, k < w.heap.size := fun k hk => h.fs.lts (by simp [hk])
  have lX : ∀ k ∈ xs, k < w.heap.size := fun k hk => h.fs.lts (by simp [hk])
  have lP := h.fs.lts h.P_mem
  have lG := h.fs.lts h.G_mem
  exact { h with
    fs := h.fs.writeL (fun k hk => ⟨by simp [hk], h.f0 k hk⟩) hO (fun k hm => by
      simp only [List.mem_cons, List.mem_append] at hm ⊢
      rcases hm with h3 | h3 | h3 | h3 | h3
      · exact .inl (.inl h3)
      · exact .inl (.inr (.inl h3))
      · exact .inl (.inr (.inr (.inl h3)))
      · rcases hf k h3 with h4 | h4
        · exact .inl (.inr (.inr (.inr (.inl h4))))
        · exact .inr ⟨h4, Φ.lim _ _ _ hs k h3⟩
      · exact .inl (.inr (.inr (.inr (.inr h3)))))
    head := (hk P nP (by simp)).trans h.head
    row := (hk G nG (by simp)).trans h.row
    byt := fun i f v h1 h2 => (h.byt i f v h1 h2).stay rfl hO.size (fun k hm => ⟨hm, hk k (nB k hm) (by simp [hm])⟩)
    pb := fun hm => by
      simp only [List.mem_append] at hm
      rcases hm with h3 | h3 | h3
      · exact h.pb (by simp [h3])
      · rcases hf P h3 with h4 | h4
        · exact nP h4
        · omega
      · exact h.pb (by simp [h3])
    gb := fun hm => by
      simp only [List.mem_append] at hm
      rcases hm with h3 | h3 | h3
      · exact h.gb (by simp [h3])
      · rcases hf G h3 with h4 | h4
        · exact nG h4
        · omega
      · exact h.gb (by simp [h3])
    bx := fun k hk hm => by
      simp only [List.mem_append] at hm
      rcases hm with h3 | h3
      · rcases hf k h3 with h4 | h4
        · exact nB k hk h4
        · have := lB k hk; omega
      · exact h.bx k hk (by simp [h3])
    fx := fun k hk hm => by
      rcases hf k hk with h4 | h4
      · exact h.fx k h4 hm
      · have := lX k hm; omega
    f0 := fun k hk => by
      rcases hf k hk with h4 | h4
      · exact h.f0 k h4
      · have := h.fs.below.size; omega
    fo := hs }
theorem PoolIs.at (h : PoolIs Φ w0 w P G q p n xs bl ff vs S D) : PoolAt Φ w0 w P G q p n xs S := ⟨_, _, _, _, h⟩
theorem PoolAt.belowW (h : PoolAt Φ w0 w P G q p n xs S) (hb : Below w.heap.size w w') : PoolAt Φ w0 w' P G q p n xs S := let ⟨_, _, _, _, x⟩ := h; (x.belowW hb).at
theorem PoolAt.below (h : PoolAt Φ w0 w P G q p n xs S) : Below w0.heap.size w0 w := let ⟨_, _, _, _, x⟩ := h; x.fs.below
/-- Other blocks to be apart from. -/
theorem PoolIs.mindNew (h : PoolIs Φ w0 w P G q p n xs bl ff vs S D) (hb : Below w.heap.size w w') {ys : List Nat} (hy : ∀ k ∈ ys, k ∈ xs ∨ (w.heap.size ≤ k ∧ k < w'.heap.size)) : PoolIs Φ w0 w' P G q p n ys bl ff vs S D := by
  have y := h.belowW hb
  have lt : ∀ k ∈ P :: G :: (bl ++ (ff ++ xs)), k < w.heap.size := fun k hk => h.fs.lts hk
  exact { y with
    fs := h.fs.mindNew hb (fun k hm => by
      simp only [List.mem_cons, List.mem_append] at hm ⊢
      rcases hm with h3 | h3 | h3 | h3 | h3
      · exact .inl (.inl h3)
      · exact .inl (.inr (.inl h3))
      · exact .inl (.inr (.inr (.inl h3)))
      · exact .inl (.inr (.inr (.inr (.inl h3))))
      · rcases hy k h3 with h4 | h4
        · exact .inl (.inr (.inr (.inr (.inr h4))))
        · exact .inr h4)
    pb := fun hm => by
      simp only [List.mem_append] at hm
      rcases hm with h3 | h3 | h3
      · exact h.pb (by simp [h3])
      · exact h.pb (by simp [h3])
      · rcases hy P h3 with h4 | h4
        · exact h.pb (by simp [h4])
        · have := lt P (by simp); omega
    gb := fun hm => by
      simp only [List.mem_append] at hm
      rcases hm with h3 | h3 | h3
      · exact h.gb (by simp [h3])
      · exact h.gb (by simp [h3])
      · rcases hy G h3 with h4 | h4
        · exact h.gb (by simp [h4])
        · have := lt G (by simp); omega
    bx := fun k hk hm => by
      simp only [List.mem_append] at hm
      rcases hm with h3 | h3
      · exact h.bx k hk (by simp [h3])
      · rcases hy k h3 with h4 | h4
        · exact h.bx k hk (by simp [h4])
        · have := lt k (by simp [hk]); omega
    fx := fun k hk hm => by
      rcases hy k hm with h4 | h4
      · exact h.fx k hk h4
      · have := lt k (by simp [hk]); omega }
theorem PoolAt.mindNew (h : PoolAt Φ w0 w P G q p n xs S) (hb : Below w.heap.size w w') {ys : List Nat} (hy : ∀ k ∈ ys, k ∈ xs ∨ (w.heap.size ≤ k ∧ k < w'.heap.size)) : PoolAt Φ w0 w' P G q p n ys S := let ⟨_, _, _, _, x⟩ := h; (x.mindNew hb hy).at
theorem PoolAt.mind (h : PoolAt Φ w0 w P G q p n xs S) {ys : List Nat} (hy : ∀ k ∈ ys, k ∈ xs) : PoolAt Φ w0 w P G q p n ys S := h.mindNew (Below.refl _ _) (fun k hk => .inl (hy k hk))
theorem PoolAt.lts (h : PoolAt Φ w0 w P G q p n xs S) {k : Nat} (hk : k ∈ xs) : k < w.heap.size := let ⟨_, _, _, _, x⟩ := h; x.fs.lts (by simp [hk])
/-- The law writes one of its own blocks. -/
theorem PoolAt.write (h : PoolAt Φ w0 w P G q p n xs S) {g : Nat} (hg : g ∈ xs) (hg0 : w0.heap.size ≤ g) (hO : Off [g] w w') : PoolAt Φ w0 w' P G q p n xs S := by
  obtain ⟨bl, ff, vs, D, h⟩ := h
  have hk : ∀ k, k ≠ g → k ∈ P :: G :: (bl ++ (ff ++ xs)) → w'.heap[k]? = w.heap[k]? := fun k hn hm => hO.block k (h.fs.lts hm) (by simpa using hn)
  refine PoolIs.at (bl := bl) (ff := ff) (vs := vs) (D := D) { h with
    fs := h.fs.write (by simp [hg]) hg0 hO
    head := (hk P (fun e => h.pb (by rw [e]; simp [hg])) (by simp)).trans h.head
    row := (hk G (fun e => h.gb (by rw [e]; simp [hg])) (by simp)).trans h.row
    byt := fun i f v h1 h2 => (h.byt i f v h1 h2).stay rfl hO.size (fun k hm => ⟨hm, hk k (fun e => h.bx k hm (by rw [e]; simp [hg])) (by simp [hm])⟩)
    fo := Φ.stay _ _ _ _ h.fo hO.size (fun k hm => hk k (fun e => h.fx k hm (by rw [e]; exact hg)) (by simp [hm])) }

/-! ### Cells -/
theorem PoolIs.c0 (h : PoolIs Φ w0 w P G q p n xs bl ff vs S D) : w.cell? ⟨P, 0, none⟩ = some (.pointer (some ⟨q, 0, none⟩)) := by rw [cell_of_row w P 0 _ _ _ h.head]; rfl
theorem PoolIs.c1 (h : PoolIs Φ w0 w P G q p n xs bl ff vs S D) : w.cell? ⟨P, 1, none⟩ = some Φ.fv := by rw [cell_of_row w P 1 _ _ _ h.head]; rfl
theorem PoolIs.c2 (h : PoolIs Φ w0 w P G q p n xs bl ff vs S D) : w.cell? ⟨P, 2, none⟩ = some (.slice (some ⟨G, 0, none⟩) S.fs.length S.fs.length) := by rw [cell_of_row w P 2 _ _ _ h.head]; rfl
theorem PoolIs.c3 (h : PoolIs Φ w0 w P G q p n xs bl ff vs S D) : w.cell? ⟨P, 3, none⟩ = some (.int .i64 (S.hand : Int)) := by rw [cell_of_row w P 3 _ _ _ h.head]; rfl
theorem PoolIs.c4 (h : PoolIs Φ w0 w P G q p n xs bl ff vs S D) : w.cell? ⟨P, 4, none⟩ = some (.int .i64 (S.wr : Int)) := by rw [cell_of_row w P 4 _ _ _ h.head]; rfl
theorem PoolIs.fzP (h : PoolIs Φ w0 w P G q p n xs bl ff vs S D) (o : Nat) : w.frozen? ⟨P, o, none⟩ = false := frozen_of_row w P o _ _ h.head
theorem PoolIs.fzG (h : PoolIs Φ w0 w P G q p n xs bl ff vs S D) (o : Nat) : w.frozen? ⟨G, o, none⟩ = false := frozen_of_row w G o _ _ h.row
theorem PoolIs.cell (h : PoolIs Φ w0 w P G q p n xs bl ff vs S D) (i : Nat) (f : Fm) (hi : S.fs[i]? = some f) : ∃ v, vs[i]? = some v ∧ BytesOk w bl f v ∧ i < S.fs.length ∧ ∀ k, k < 7 → w.cell? ⟨G, i * 7 + k, none⟩ = (fCells f v)[k]? := by
  obtain ⟨hlt, rfl⟩ := List.getElem?_eq_some_iff.1 hi
  have hv : i < vs.length := by rw [h.vlen]; exact hlt
  refine ⟨vs[i], List.getElem?_eq_getElem hv, h.byt i _ _ hi (List.getElem?_eq_getElem hv), hlt, fun k hk => ?_⟩
  rw [cell_of_row w G _ _ _ _ h.row]
  rw [List.getElem?_toArray]
  exact rowF_get _ _ h.vlen i hlt k hk
end
end Go.Proofs.Ytifoafiidplpiaa
