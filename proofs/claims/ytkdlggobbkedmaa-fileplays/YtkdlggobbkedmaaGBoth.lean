/- Two devices, the program's and the document's, each with a file or without, apart from some other blocks. -/
import Derived.Test.YtkdlggobbkedmaaGOpen
import Derived.Test.YtkdlggobbkedmaaFSafe
namespace Go.Proofs.Ytkdlggobbkedmaa
open Go.RowKit
set_option linter.unusedVariables false
set_option linter.unusedSimpArgs false

/-! ### As data -/
def Dv.fwrite (D : Dv) (fr n : Nat) (failed : Bool) (i : Int) (bs : List UInt8) : Int × Bool × Dv :=
  if failed = true then (50, true, D) else if (i < 0 ∨ (n : Int) ≤ i) ∨ bs.length ≠ 512 then (1, false, D) else ((D.carJ fr i.toNat bs).1, (D.carJ fr i.toNat bs).1 != 0, (D.carJ fr i.toNat bs).2)
def Dv.fread (D : Dv) (fr n : Nat) (i : Int) : List UInt8 × Int × Dv :=
  if i < 0 ∨ (n : Int) ≤ i then ([], 1, D) else if D.dead = true then ([], 50, D) else (D.four (fr + 5 + 4 * i.toNat), 0, D.more 4)
theorem norm_fwrite (D : Dv) (fr n : Nat) (failed : Bool) (i : Int) (bs : List UInt8) : D.norm.fwrite fr n failed i bs = ((D.fwrite fr n failed i bs).1, (D.fwrite fr n failed i bs).2.1, (D.fwrite fr n failed i bs).2.2.norm) := by
  unfold Dv.fwrite
  split
  · rfl
  · split
    · rfl
    · rw [norm_carJ]; rfl
theorem norm_fread (D : Dv) (fr n : Nat) (i : Int) : D.norm.fread fr n i = ((D.fread fr n i).1, (D.fread fr n i).2.1, (D.fread fr n i).2.2.norm) := by
  unfold Dv.fread
  have h1 : D.norm.dead = D.dead := rfl
  rw [h1]
  split
  · rfl
  · split
    · rfl
    · rw [norm_more]; rfl
theorem lay_L : ∀ (ss : List (List UInt8)) (D : Dv) (i : Nat), (D.lay i ss).2.L.length = D.L.length
  | [], D, i => by
    unfold Dv.lay Dv.sync
    split
    · rfl
    · split
      · rfl
      · exact length_laidOver _ _
  | s :: r, D, i => by
    unfold Dv.lay
    split
    · rw [write_L]
    · rw [lay_L r, write_L]
/-- As many sectors, and at most k writes more. -/
structure Near (k : Nat) (D E : Dv) : Prop where
  len : E.L.length = D.L.length
  few : E.W.length ≤ D.W.length + k
theorem near_lay (D : Dv) (i : Nat) (ss : List (List UInt8)) : Near ss.length D (D.lay i ss).2 := ⟨lay_L ss D i, lay_W ss D i⟩
theorem Near.trans {a b : Nat} {D E F : Dv} (h : Near a D E) (k : Near b E F) : Near (a + b) D F := ⟨k.len.trans h.len, by have := h.few; have := k.few; omega⟩
theorem Near.mono {a b : Nat} {D E : Dv} (h : Near a D E) (hab : a ≤ b) : Near b D E := ⟨h.len, by have := h.few; omega⟩
theorem near_refl (D : Dv) (k : Nat) : Near k D D := ⟨rfl, by omega⟩
theorem near_onOk {a b : Nat} {D : Dv} {x : Int × Dv} {f : Dv → Int × Dv} (h : Near a D x.2) (hf : ∀ E, Near b E (f E).2) : Near (a + b) D (onOk x f).2 := by
  unfold onOk
  split
  · exact h.mono (by omega)
  · exact h.trans (hf _)
theorem near_carP (D : Dv) (fr i : Nat) (b : List UInt8) : Near 5 D (D.carP fr i b).2 :=
  near_onOk (a := 4) (by have := near_lay D (fr + 5 + 4 * i) (secsOf 4 b); rw [length_secsOf] at this; exact this) (fun E => near_lay E fr [headOf 0])
theorem near_carJ (D : Dv) (fr i : Nat) (b : List UInt8) : Near 10 D (D.carJ fr i b).2 :=
  near_onOk (a := 4) (b := 6) (by have := near_lay D (fr + 1) (secsOf 4 b); rw [length_secsOf] at this; exact this) (fun E => near_onOk (a := 1) (b := 5) (near_lay E fr [headOf (i + 1)]) (fun F => near_carP F fr i b))
theorem near_more (D : Dv) (k m : Nat) : Near m D (D.more k) := ⟨by rw [more_L], by rw [more_W]; omega⟩
theorem near_mend (D : Dv) (fr n : Nat) : Near 5 D (D.mend fr n).2 := by
  unfold Dv.mend
  split
  · exact near_refl D 5
  · split
    · exact near_more D 1 5
    · exact (Near.trans (near_more D 5 0) (near_carP _ _ _ _)).mono (by omega)
theorem near_fwrite (D : Dv) (fr n : Nat) (failed : Bool) (i : Int) (bs : List UInt8) : Near 10 D (D.fwrite fr n failed i bs).2.2 := by
  unfold Dv.fwrite
  split
  · exact near_refl D 10
  · split
    · exact near_refl D 10
    · exact near_carJ D fr _ bs
theorem near_fread (D : Dv) (fr n : Nat) (i : Int) : Near 10 D (D.fread fr n i).2.2 := by
  unfold Dv.fread
  split
  · exact near_refl D 10
  · split
    · exact near_refl D 10
    · exact near_more D 4 10
theorem near_write (D : Dv) (i : Int) (bs : List UInt8) : Near 1 D (D.write i bs).2 := ⟨by rw [write_L], write_W D i bs⟩
theorem near_crash (D : Dv) (ks : List Bool) : Near 0 D (D.crashed ks) := ⟨length_laidOver _ _, by simp [Dv.crashed]⟩

theorem wf_onOk {x : Int × Dv} {f : Dv → Int × Dv} (h : x.2.wf) (hf : ∀ E : Dv, E.wf → (f E).2.wf) : (onOk x f).2.wf := by
  unfold onOk
  split
  · exact h
  · exact hf _ h
theorem wf_carP {D : Dv} (h : D.wf) (fr i : Nat) (b : List UInt8) : (D.carP fr i b).2.wf := wf_onOk (wf_lay _ _ _ h) (fun E hE => wf_lay _ _ _ hE)
theorem wf_carJ {D : Dv} (h : D.wf) (fr i : Nat) (b : List UInt8) : (D.carJ fr i b).2.wf := wf_onOk (wf_lay _ _ _ h) (fun E hE => wf_onOk (wf_lay _ _ _ hE) (fun F hF => wf_carP hF fr i b))

/-! ### In memory -/
structure DD (w0 w : World) (p r : Nat) (xs fp gp : List Nat) (D R : Dv) : Prop where
  dev : DevAt w p fp D
  ref : RefAt w r gp R
  rwf : R.wf
  dis : ∀ k ∈ fp, k ∉ gp
  xf : ∀ k ∈ xs, k < w.heap.size ∧ k ∉ fp ∧ k ∉ gp
  f0 : ∀ k ∈ fp, w0.heap.size ≤ k
  g0 : ∀ k ∈ gp, w0.heap.size ≤ k
  x0 : ∀ k ∈ xs, w0.heap.size ≤ k
  below : Below w0.heap.size w0 w
def DX (w0 w : World) (p r : Nat) (xs : List Nat) (D R : Dv) : Prop := ∃ fp gp, DD w0 w p r xs fp gp D R
section
variable {w0 w w' : World} {p r : Nat} {xs : List Nat} {D D' R R' : Dv}
/-- The program's side steps; of the other blocks it may change zs. -/
theorem DD.stepP {fp fp' gp : List Nat} (x : DD w0 w p r xs fp gp D R) (zs : List Nat) (hz : ∀ k ∈ zs, k ∈ xs) (hO : Off (zs ++ fp) w w') (hD : DevAt w' p fp' D') (hF : ∀ k ∈ fp', k ∈ fp ∨ w.heap.size ≤ k) :
    DD w0 w' p r xs fp' gp D' R ∧ ∀ k ∈ xs, k ∉ zs → w'.heap[k]? = w.heap[k]? := by
  have hsz := x.below.size
  have hgl := x.ref.lim
  refine ⟨⟨hD, x.ref.apart hO (fun k hk hm => ?_), x.rwf, fun k hk hm => ?_, fun k hk => ⟨Nat.lt_of_lt_of_le (x.xf k hk).1 hO.size, fun hm => ?_, (x.xf k hk).2.2⟩, fun k hk => ?_, x.g0, x.x0, x.below.trans (hO.below hsz (fun k hk => ?_))⟩, fun k hk hn => hO.block k (x.xf k hk).1 (fun hm => ?_)⟩
  · rcases List.mem_append.1 hm with h1 | h1
    · exact (x.xf k (hz k h1)).2.2 hk
    · exact x.dis k h1 hk
  · rcases hF k hk with h1 | h1
    · exact x.dis k h1 hm
    · have := hgl k hm; omega
  · rcases hF k hm with h1 | h1
    · exact (x.xf k hk).2.1 h1
    · have := (x.xf k hk).1; omega
  · rcases hF k hk with h1 | h1
    · exact x.f0 k h1
    · omega
  · rcases List.mem_append.1 hk with h1 | h1
    · exact x.x0 k (hz k h1)
    · exact x.f0 k h1
  · rcases List.mem_append.1 hm with h1 | h1
    · exact hn h1
    · exact (x.xf k hk).2.1 h1
/-- The document's side steps. -/
theorem DD.stepR {fp gp gp' : List Nat} (x : DD w0 w p r xs fp gp D R) (zs : List Nat) (hz : ∀ k ∈ zs, k ∈ xs) (hO : Off (zs ++ gp) w w') (hD : RefAt w' r gp' R') (hwf : R'.wf) (hF : ∀ k ∈ gp', k ∈ gp ∨ w.heap.size ≤ k) :
    DD w0 w' p r xs fp gp' D R' ∧ ∀ k ∈ xs, k ∉ zs → w'.heap[k]? = w.heap[k]? := by
  have hsz := x.below.size
  have hgl := x.dev.lim
  refine ⟨⟨x.dev.apart hO (fun k hk hm => ?_), hD, hwf, fun k hk hm => ?_, fun k hk => ⟨Nat.lt_of_lt_of_le (x.xf k hk).1 hO.size, (x.xf k hk).2.1, fun hm => ?_⟩, x.f0, fun k hk => ?_, x.x0, x.below.trans (hO.below hsz (fun k hk => ?_))⟩, fun k hk hn => hO.block k (x.xf k hk).1 (fun hm => ?_)⟩
  · rcases List.mem_append.1 hm with h1 | h1
    · exact (x.xf k (hz k h1)).2.1 hk
    · exact x.dis k hk h1
  · rcases hF k hm with h1 | h1
    · exact x.dis k hk h1
    · have := hgl k hk; omega
  · rcases hF k hm with h1 | h1
    · exact (x.xf k hk).2.2 h1
    · have := (x.xf k hk).1; omega
  · rcases hF k hk with h1 | h1
    · exact x.g0 k h1
    · omega
  · rcases List.mem_append.1 hk with h1 | h1
    · exact x.x0 k (hz k h1)
    · exact x.g0 k h1
  · rcases List.mem_append.1 hm with h1 | h1
    · exact hn h1
    · exact (x.xf k hk).2.2 h1
theorem DX.below (h : DX w0 w p r xs D R) : Below w0.heap.size w0 w := let ⟨_, _, x⟩ := h; x.below
theorem DX.wf (h : DX w0 w p r xs D R) : D.wf := let ⟨_, _, x⟩ := h; x.dev.wf
theorem DX.rwf (h : DX w0 w p r xs D R) : R.wf := let ⟨_, _, x⟩ := h; x.rwf
theorem DX.mindNew (h : DX w0 w p r xs D R) (hb : Below w.heap.size w w') {ys : List Nat} (hy : ∀ k ∈ ys, k ∈ xs ∨ (w.heap.size ≤ k ∧ k < w'.heap.size)) : DX w0 w' p r ys D R := by
  obtain ⟨fp, gp, x⟩ := h
  obtain ⟨y, _⟩ := x.stepP [] (by simp) (Off.of_below hb _) (x.dev.below hb) (fun k hk => .inl hk)
  have hsz := x.below.size
  refine ⟨fp, gp, y.dev, y.ref, y.rwf, y.dis, fun k hk => ?_, y.f0, y.g0, fun k hk => ?_, y.below⟩
  · rcases hy k hk with h1 | h1
    · exact y.xf k h1
    · exact ⟨h1.2, fun hm => by have := x.dev.lim k hm; omega, fun hm => by have := x.ref.lim k hm; omega⟩
  · rcases hy k hk with h1 | h1
    · exact y.x0 k h1
    · omega
theorem DX.belowW (h : DX w0 w p r xs D R) (hb : Below w.heap.size w w') : DX w0 w' p r xs D R := h.mindNew hb (fun k hk => .inl hk)
theorem DX.mind (h : DX w0 w p r xs D R) {ys : List Nat} (hy : ∀ k ∈ ys, k ∈ xs) : DX w0 w p r ys D R := h.mindNew (Below.refl _ _) (fun k hk => .inl (hy k hk))
/-- A block that is apart is written. -/
theorem DX.write {g : Nat} (h : DX w0 w p r xs D R) (hg : g ∈ xs) (hO : Off [g] w w') : DX w0 w' p r xs D R := by
  obtain ⟨fp, gp, x⟩ := h
  have hO2 : Off ([g] ++ fp) w w' := hO.mono (fun k hk => by simp at hk; simp [hk])
  obtain ⟨y, _⟩ := x.stepP [g] (fun k hk => by simp at hk; rw [hk]; exact hg) hO2 (x.dev.apart hO (fun k hk hm => by simp at hm; exact (x.xf g hg).2.1 (hm ▸ hk))) (fun k hk => .inl hk)
  exact ⟨fp, gp, y⟩
/-- xs but zs are as they were. -/
def Kept2 (xs zs : List Nat) (w w' : World) : Prop := w.heap.size ≤ w'.heap.size ∧ ∀ k ∈ xs, k ∉ zs → w'.heap[k]? = w.heap[k]?

theorem dd_new (n : Nat) (w : World) (h1 : 1 ≤ n) (h2 : n ≤ 8192) :
    Calls Try.prog 6 #[.int .i64 (n : Int)] w fun e w' => ∃ p, e = .returned (.tuple #[.pointer (some ⟨p, 0, none⟩), .int .i64 0]) ∧ DevX w w' p [] (Dv.fresh n) := b_new n w h1 h2
theorem dd_rnew (n : Nat) (h : DevX w0 w p [] (Dv.fresh n)) (h1 : 1 ≤ n) (h2 : n ≤ 8192) :
    Calls Try.prog 13 #[.int .i64 (n : Int)] w fun e w' => ∃ r, e = .returned (.tuple #[.pointer (some ⟨r, 0, none⟩), .int .i64 0]) ∧ DX w0 w' p r [] (Dv.fresh n) (Dv.fresh n) := by
  obtain ⟨fp, x⟩ := h
  refine (rnew_dev n w h1 h2).mono ?_
  rintro e w' ⟨r, gp, rfl, hR, hg, hb⟩
  have hsz := x.below.size
  refine ⟨r, rfl, fp, gp, x.dev.below hb, hR, (fresh_well n h1 h2).wf, fun k hk hm => ?_, fun k hk => by simp at hk, x.f0, fun k hk => by have := hg k hk; omega, fun k hk => by simp at hk, x.below.trans (hb.mono hsz)⟩
  have := x.dev.lim k hk
  have := hg k hm
  omega
/-! ### Files -/
theorem pl_write {q fr n : Nat} {failed : Bool} (i : Int) (g c m : Nat) (bs : List UInt8) (h : DX w0 w p r xs D R) (hq : q ∈ xs) (hg : g ∈ xs) (hf : FileAt w q p fr n failed) (hs : w.heap[g]? = some (.cells (secCells bs).toArray 5 (0, 0))) (hl : bs.length = m) (hc : m ≤ c) (hW : D.W.length ≤ 800000) (hfr : fr + 5 + 4 * n ≤ D.L.length) :
    Calls Try.prog 9 #[.pointer (some ⟨q, 0, none⟩), .int .i64 i, .slice (some ⟨g, 0, none⟩) m c] w fun e w' => e = .returned (.int .i64 (D.fwrite fr n failed i bs).1) ∧
      DX w0 w' p r xs (D.fwrite fr n failed i bs).2.2 R ∧ FileAt w' q p fr n (D.fwrite fr n failed i bs).2.1 ∧ Kept2 xs [q] w w' := by
  subst hl
  unfold Dv.fwrite
  cases failed with
  | true =>
    rw [if_pos rfl]
    refine (fwrite_failed i _ _ c hf).mono ?_
    rintro e w' ⟨rfl, rfl⟩
    exact ⟨rfl, h, hf, Nat.le_refl _, fun _ _ _ => rfl⟩
  | false =>
    rw [if_neg (by simp)]
    by_cases ha : (i < 0 ∨ (n : Int) ≤ i) ∨ bs.length ≠ 512
    · rw [if_pos ha]
      refine (fwrite_arg i _ _ c hf ha).mono ?_
      rintro e w' ⟨rfl, rfl⟩
      exact ⟨rfl, h, hf, Nat.le_refl _, fun _ _ _ => rfl⟩
    · rw [if_neg ha]
      obtain ⟨j, rfl⟩ : ∃ j : Nat, i = j := ⟨i.toNat, by omega⟩
      obtain ⟨fp, gp, x⟩ := h
      have hmax := x.dev.wf.max
      have hb : bs.length = 512 := by omega
      simp only [Int.toNat_natCast]
      have hgo := fwrite_go j g c bs hb (by omega) hf x.dev (x.xf q hq).2.1 (SrcAt.block hs) (x.xf g hg).2.1 hW (by omega) (by omega) (by omega)
      rw [hb]
      refine hgo.mono ?_
      rintro e w' ⟨rfl, fp', h1, h2, h3, h4, h5⟩
      obtain ⟨y, hk⟩ := x.stepP [q] (fun k hk => by simp at hk; rw [hk]; exact hq) h3 h2 h4
      exact ⟨rfl, ⟨_, _, y⟩, h1, h3.size, hk⟩
theorem rl_write {q fr n : Nat} {failed : Bool} (i : Int) (bs : List UInt8) (h : DX w0 w p r xs D R) (hq : q ∈ xs) (hf : RFileAt w q r fr n failed) (hW : R.W.length ≤ 800000) (hfr : fr + 5 + 4 * n ≤ R.L.length) :
    Calls Try.prog 15 #[.pointer (some ⟨q, 0, none⟩), .int .i64 i, .string (strOf bs)] w fun e w' => e = .returned (.int .i64 (R.fwrite fr n failed i bs).1) ∧
      DX w0 w' p r xs D (R.fwrite fr n failed i bs).2.2 ∧ RFileAt w' q r fr n (R.fwrite fr n failed i bs).2.1 ∧ Kept2 xs [q] w w' := by
  unfold Dv.fwrite
  cases failed with
  | true =>
    rw [if_pos rfl]
    refine (rfwrite_failed i bs hf).mono ?_
    rintro e w' ⟨rfl, rfl⟩
    exact ⟨rfl, h, hf, Nat.le_refl _, fun _ _ _ => rfl⟩
  | false =>
    rw [if_neg (by simp)]
    by_cases ha : (i < 0 ∨ (n : Int) ≤ i) ∨ bs.length ≠ 512
    · rw [if_pos ha]
      refine (rfwrite_arg i bs hf ha).mono ?_
      rintro e w' ⟨rfl, rfl⟩
      exact ⟨rfl, h, hf, Nat.le_refl _, fun _ _ _ => rfl⟩
    · rw [if_neg ha]
      obtain ⟨j, rfl⟩ : ∃ j : Nat, i = j := ⟨i.toNat, by omega⟩
      obtain ⟨fp, gp, x⟩ := h
      have hb : bs.length = 512 := by omega
      simp only [Int.toNat_natCast]
      refine (rfwrite_go j bs hb hf x.ref x.rwf (x.xf q hq).2.2 hW hfr (by omega)).mono ?_
      rintro e w' ⟨rfl, fp', h1, h2, h3, h4, h5⟩
      have hwf : (R.carJ fr j bs).2.wf := wf_carJ x.rwf fr j bs
      obtain ⟨y, hk⟩ := x.stepR [q] (fun k hk => by simp at hk; rw [hk]; exact hq) h3 h2 hwf h4
      exact ⟨rfl, ⟨_, _, y⟩, h1, h3.size, hk⟩
/-- What a Read hands back. -/
def Told2 (w' : World) (bs : List UInt8) (v : Value) : Prop := (v = .slice none 0 0 ∧ bs = []) ∨ ∃ g, v = .slice (some ⟨g, 0, none⟩) 512 512 ∧ bs.length = 512 ∧ w'.heap[g]? = some (.cells (secCells bs).toArray 5 (0, 0))
theorem told_str {bs : List UInt8} {v : Value} (h : Told2 w bs v) : (convert 31 9 v).run Try.prog w = .ok (.string (strOf bs)) w := by
  rcases h with ⟨rfl, rfl⟩ | ⟨g, rfl, h1, h2⟩
  · exact run_strnil w
  · exact run_str w g 512 512 bs h1 h2
theorem Told2.off {bs : List UInt8} {v : Value} {fp : List Nat} {wb : World} (h : Told2 w bs v) (hO : Off fp w w') (hn : ∀ g, wb.heap.size ≤ g → g < w.heap.size → g ∉ fp) (hv : ∀ g, v.ownBlock = some g → wb.heap.size ≤ g) : Told2 w' bs v := by
  rcases h with h | ⟨g, rfl, h1, h2⟩
  · exact .inl h
  · have hlt := (Array.getElem?_eq_some_iff.1 h2).1
    exact .inr ⟨g, rfl, h1, (hO.block g hlt (hn g (hv g rfl) hlt)).trans h2⟩
theorem pl_read {q fr n : Nat} {failed : Bool} (i : Int) (h : DX w0 w p r xs D R) (hq : q ∈ xs) (hf : FileAt w q p fr n failed) (hW : D.W.length ≤ 800000) (hfr : fr + 5 + 4 * n ≤ D.L.length) :
    Calls Try.prog 10 #[.pointer (some ⟨q, 0, none⟩), .int .i64 i] w fun e w' => ∃ v ys, e = .returned (.tuple #[v, .int .i64 (D.fread fr n i).2.1]) ∧ Told2 w' (D.fread fr n i).1 v ∧ (∀ g, v.ownBlock = some g → g ∈ ys) ∧
      DX w0 w' p r (ys ++ xs) (D.fread fr n i).2.2 R ∧ Kept2 xs [] w w' := by
  unfold Dv.fread
  by_cases ha : i < 0 ∨ (n : Int) ≤ i
  · rw [if_pos ha]
    refine (fread_arg i hf ha).mono ?_
    rintro e w' ⟨rfl, rfl⟩
    exact ⟨_, [], rfl, .inl ⟨rfl, rfl⟩, fun g hg => by simp [Value.ownBlock] at hg, h, Nat.le_refl _, fun _ _ _ => rfl⟩
  · rw [if_neg ha]
    obtain ⟨j, rfl⟩ : ∃ j : Nat, i = j := ⟨i.toNat, by omega⟩
    simp only [Int.toNat_natCast]
    obtain ⟨fp, gp, x⟩ := h
    have hmax := x.dev.wf.max
    by_cases hd : D.dead = true
    · rw [if_pos hd]
      refine (fread_dead j hf x.dev (x.xf q hq).2.1 hd (by omega) (by omega) (by omega) (by omega)).mono ?_
      rintro e w' ⟨rfl, hb⟩
      obtain ⟨y, hk⟩ := x.stepP [] (by simp) (Off.of_below hb _) (x.dev.below hb) (fun k hk => .inl hk)
      exact ⟨_, [], rfl, .inl ⟨rfl, rfl⟩, fun g hg => by simp [Value.ownBlock] at hg, ⟨_, _, y⟩, hb.size, hk⟩
    · rw [if_neg hd]
      have hd' : D.dead = false := by simpa using hd
      have hlf := length_four x.dev.wf (fr + 5 + 4 * j) (by omega)
      refine (fread_ok j hf x.dev (x.xf q hq).2.1 hd' (by omega) hfr (by omega)).mono ?_
      rintro e w' ⟨rfl, h1, h2, h3⟩
      obtain ⟨y, hk⟩ := x.stepP [] (by simp) h3 h2 (fun k hk => .inl hk)
      have hlt := (Array.getElem?_eq_some_iff.1 h1).1
      refine ⟨_, [w.heap.size], rfl, .inr ⟨_, rfl, hlf, h1⟩, fun g hg => by simp [Value.ownBlock] at hg; simp [hg], ⟨fp, gp, y.dev, y.ref, y.rwf, y.dis, fun k hm => ?_, y.f0, y.g0, fun k hm => ?_, y.below⟩, h3.size, hk⟩
      · rcases List.mem_append.1 hm with h6 | h6
        · simp at h6
          rw [h6]
          exact ⟨hlt, fun hm => by have := x.dev.lim _ hm; omega, fun hm => by have := x.ref.lim _ hm; omega⟩
        · exact y.xf k h6
      · rcases List.mem_append.1 hm with h6 | h6
        · simp at h6
          rw [h6]
          exact x.below.size
        · exact y.x0 k h6
theorem rl_read {q fr n : Nat} {failed : Bool} (i : Int) (h : DX w0 w p r xs D R) (hq : q ∈ xs) (hf : RFileAt w q r fr n failed) (hW : R.W.length ≤ 800000) (hfr : fr + 5 + 4 * n ≤ R.L.length) :
    Calls Try.prog 16 #[.pointer (some ⟨q, 0, none⟩), .int .i64 i] w fun e w' => e = .returned (.tuple #[.string (strOf (R.fread fr n i).1), .int .i64 (R.fread fr n i).2.1]) ∧ DX w0 w' p r xs D (R.fread fr n i).2.2 ∧ Kept2 xs [] w w' := by
  unfold Dv.fread
  by_cases ha : i < 0 ∨ (n : Int) ≤ i
  · rw [if_pos ha]
    refine (rfread_arg i hf ha).mono ?_
    rintro e w' ⟨rfl, rfl⟩
    exact ⟨rfl, h, Nat.le_refl _, fun _ _ _ => rfl⟩
  · rw [if_neg ha]
    obtain ⟨j, rfl⟩ : ∃ j : Nat, i = j := ⟨i.toNat, by omega⟩
    simp only [Int.toNat_natCast]
    obtain ⟨fp, gp, x⟩ := h
    have hmax := x.rwf.max
    by_cases hd : R.dead = true
    · rw [if_pos hd]
      refine (rfread_dead j hf x.ref hd (by omega) (by omega) (by omega)).mono ?_
      rintro e w' ⟨rfl, rfl⟩
      exact ⟨rfl, ⟨_, _, x⟩, Nat.le_refl _, fun _ _ _ => rfl⟩
    · rw [if_neg hd]
      refine (rfread_ok j hf x.ref x.rwf (x.xf q hq).2.2 (by simpa using hd) (by omega) hfr (by omega)).mono ?_
      rintro e w' ⟨rfl, h2, h3⟩
      obtain ⟨y, hk⟩ := x.stepR [] (by simp) h3 h2 (wf_more x.rwf 4) (fun k hk => .inl hk)
      exact ⟨rfl, ⟨_, _, y⟩, h3.size, hk⟩
theorem wf_mend (hwf : R.wf) (fr n : Nat) : (R.mend fr n).2.wf := by
  unfold Dv.mend
  split
  · exact hwf
  · split
    · exact wf_more hwf 1
    · unfold Dv.carP onOk
      split
      · exact wf_lay _ _ _ (wf_more hwf 5)
      · exact wf_lay _ _ _ (wf_lay _ _ _ (wf_more hwf 5))
theorem pl_openArg (a b : Int) (h : DX w0 w p r xs D R) (ha1 : -9223372036854775808 ≤ a) (ha2 : a ≤ 9223372036854775807) (hx : ¬ (1 ≤ b ∧ 0 ≤ a ∧ a + 5 + 4 * b ≤ (D.L.length : Int))) :
    Calls Try.prog 7 #[.pointer (some ⟨p, 0, none⟩), .int .i64 a, .int .i64 b] w fun e w' => e = .returned (.tuple #[.pointer none, .int .i64 1]) ∧ w' = w := let ⟨_, _, x⟩ := h; open_arg a b x.dev ha1 ha2 hx
theorem rl_openArg (a b : Int) (h : DX w0 w p r xs D R) (ha1 : -9223372036854775808 ≤ a) (ha2 : a ≤ 9223372036854775807) (hx : ¬ (1 ≤ b ∧ 0 ≤ a ∧ a + 5 + 4 * b ≤ (R.L.length : Int))) :
    Calls Try.prog 14 #[.pointer (some ⟨r, 0, none⟩), .int .i64 a, .int .i64 b] w fun e w' => e = .returned (.tuple #[.pointer none, .int .i64 1]) ∧ w' = w := let ⟨_, _, x⟩ := h; ropen_arg a b x.ref x.rwf ha1 ha2 hx
theorem pl_open (fr n : Nat) (h : DX w0 w p r xs D R) (hn : 1 ≤ n) (hW : D.W.length ≤ 700000) (hfr : fr + 5 + 4 * n ≤ D.L.length) :
    Calls Try.prog 7 #[.pointer (some ⟨p, 0, none⟩), .int .i64 (fr : Int), .int .i64 (n : Int)] w fun e w' => ∃ q, e = .returned (.tuple #[.pointer (if (D.mend fr n).1 = 0 then some ⟨q, 0, none⟩ else none), .int .i64 (D.mend fr n).1]) ∧
      DX w0 w' p r (q :: xs) (D.mend fr n).2 R ∧ FileAt w' q p fr n false ∧ q ∉ xs ∧ Kept2 xs [] w w' := by
  obtain ⟨fp, gp, x⟩ := h
  refine (open_go x.dev hn hW hfr).mono ?_
  rintro e w' ⟨rfl, fp', h1, h2, h3, h4, h5⟩
  obtain ⟨y, hk⟩ := x.stepP [] (by simp) h3 h2 h4
  have hnx : w.heap.size ∉ xs := fun hm => by have := (x.xf _ hm).1; omega
  refine ⟨_, rfl, ⟨fp', gp, y.dev, y.ref, y.rwf, y.dis, fun k hm => ?_, y.f0, y.g0, fun k hm => ?_, y.below⟩, h1, hnx, h3.size, hk⟩
  · rcases List.mem_cons.1 hm with h6 | h6
    · rw [h6]
      exact ⟨h1.lt, h5, fun hm => by have := x.ref.lim _ hm; omega⟩
    · exact y.xf k h6
  · rcases List.mem_cons.1 hm with h6 | h6
    · rw [h6]; exact x.below.size
    · exact y.x0 k h6
theorem rl_open (fr n : Nat) (h : DX w0 w p r xs D R) (hn : 1 ≤ n) (hW : R.W.length ≤ 700000) (hfr : fr + 5 + 4 * n ≤ R.L.length) :
    Calls Try.prog 14 #[.pointer (some ⟨r, 0, none⟩), .int .i64 (fr : Int), .int .i64 (n : Int)] w fun e w' => ∃ q, e = .returned (.tuple #[.pointer (if (R.mend fr n).1 = 0 then some ⟨q, 0, none⟩ else none), .int .i64 (R.mend fr n).1]) ∧
      DX w0 w' p r (q :: xs) D (R.mend fr n).2 ∧ RFileAt w' q r fr n false ∧ q ∉ xs ∧ Kept2 xs [] w w' := by
  obtain ⟨fp, gp, x⟩ := h
  refine (ropen_go x.ref x.rwf hn hW hfr).mono ?_
  rintro e w' ⟨rfl, fp', h1, h2, h3, h4, h5⟩
  obtain ⟨y, hk⟩ := x.stepR [] (by simp) h3 h2 (wf_mend x.rwf fr n) h4
  have hnx : w.heap.size ∉ xs := fun hm => by have := (x.xf _ hm).1; omega
  refine ⟨_, rfl, ⟨fp, fp', y.dev, y.ref, y.rwf, y.dis, fun k hm => ?_, y.f0, y.g0, fun k hm => ?_, y.below⟩, h1, hnx, h3.size, hk⟩
  · rcases List.mem_cons.1 hm with h6 | h6
    · rw [h6]
      exact ⟨h1.lt, fun hm => by have := x.dev.lim _ hm; omega, h5⟩
    · exact y.xf k h6
  · rcases List.mem_cons.1 hm with h6 | h6
    · rw [h6]; exact x.below.size
    · exact y.x0 k h6
theorem pl_fuse (k : Int) (h : DX w0 w p r xs D R) (h1 : -9223372036854775808 ≤ k) (h2 : k ≤ 9223372036854775807) :
    Calls Try.prog 19 #[.pointer (some ⟨p, 0, none⟩), .int .i64 k] w fun e w' => e = .returned (.tuple #[]) ∧ DX w0 w' p r xs { D with fuse := k } R ∧ Kept2 xs [] w w' := by
  obtain ⟨fp, gp, x⟩ := h
  refine (fuse_dev p k w fp D x.dev h1 h2).mono ?_
  rintro e w' ⟨rfl, a1, a2⟩
  obtain ⟨y, hk⟩ := x.stepP [] (by simp) a2 a1 (fun k hk => .inl hk)
  exact ⟨rfl, ⟨_, _, y⟩, a2.size, hk⟩
/-- The document's fuse is laid by hand. -/
theorem rl_fuse (k : Int) (h : DX w0 w p r xs D R) (h1 : -9223372036854775808 ≤ k) (h2 : k ≤ 9223372036854775807) : (∃ v, w.cell? ⟨r, 2, none⟩ = some (.int .i64 v)) ∧ w.frozen? ⟨r, 2, none⟩ = false ∧
    DX w0 (w.setCell ⟨r, 2, none⟩ (.int .i64 k)) p r xs D { R with fuse := k } ∧ Kept2 xs [] w (w.setCell ⟨r, 2, none⟩ (.int .i64 k)) := by
  obtain ⟨fp, gp, x⟩ := h
  obtain ⟨lv, cv, hI⟩ := x.ref
  have hR := hI.heads 2 (.int .i64 k) { R with fuse := k } rfl rfl rfl
  have hO : Off ([] ++ gp) w (w.setCell ⟨r, 2, none⟩ (.int .i64 k)) := (Off.refl gp w).setCell _ _ (.inl hI.inP)
  obtain ⟨y, hk⟩ := x.stepR [] (by simp) hO ⟨lv, cv, hR⟩ ⟨x.rwf.pos, x.rwf.max, x.rwf.sec, x.rwf.ent, h1, h2⟩ (fun k hk => .inl hk)
  exact ⟨⟨_, hI.c2⟩, hI.fz 2, ⟨_, _, y⟩, hO.size, hk⟩
theorem pl_dwrite (i : Int) (g c : Nat) (bs : List UInt8) (h : DX w0 w p r xs D R) (hg : g ∈ xs) (hs : w.heap[g]? = some (.cells (secCells bs).toArray 5 (0, 0))) (hl : bs.length = 128) (hW : D.W.length ≤ 800000) :
    Calls Try.prog 21 #[.pointer (some ⟨p, 0, none⟩), .int .i64 i, .slice (some ⟨g, 0, none⟩) 128 c] w fun e w' => e = .returned (.int .i64 (D.write i bs).1) ∧ DX w0 w' p r xs (D.write i bs).2 R ∧ Kept2 xs [] w w' := by
  obtain ⟨fp, gp, x⟩ := h
  have := write_dev p i g 0 c bs w fp D x.dev (by omega) (SrcAt.block hs) (x.xf g hg).2.1
  rw [hl] at this
  refine this.mono ?_
  rintro e w' ⟨rfl, fp', a1, a2, a3⟩
  obtain ⟨y, hk⟩ := x.stepP [] (by simp) a2 a1 a3
  exact ⟨rfl, ⟨_, _, y⟩, a2.size, hk⟩
theorem rl_dwrite (i : Int) (bs : List UInt8) (h : DX w0 w p r xs D R) (hW : R.W.length ≤ 800000) :
    Calls Try.prog 22 #[.pointer (some ⟨r, 0, none⟩), .int .i64 i, .string (strOf bs)] w fun e w' => e = .returned (.int .i64 (R.write i bs).1) ∧ DX w0 w' p r xs D (R.write i bs).2 ∧ Kept2 xs [] w w' := by
  obtain ⟨fp, gp, x⟩ := h
  refine (rwrite_dev r i bs w gp R x.ref x.rwf.hi (by omega)).mono ?_
  rintro e w' ⟨rfl, fp', a1, a2, a3⟩
  obtain ⟨y, hk⟩ := x.stepR [] (by simp) a2 a1 (wf_write x.rwf i bs) a3
  exact ⟨rfl, ⟨_, _, y⟩, a2.size, hk⟩
theorem wf_crash (hwf : R.wf) (ks : List Bool) : (R.crashed ks).wf := by
  refine ⟨by rw [crash_len]; exact hwf.pos, by rw [crash_len]; exact hwf.max, wf_laid hwf _ (fun x hx => hwf.ent x (kept_sub _ _ _ x hx)), fun x hx => absurd hx List.not_mem_nil, ?_, ?_⟩
  · show (-9223372036854775808 : Int) ≤ -1; omega
  · show (-1 : Int) ≤ 9223372036854775807; omega
theorem pl_crash (ko : Option Addr) (len cap : Nat) (ks : List Bool) (h : DX w0 w p r xs D R) (hW : D.W.length ≤ 800000) (hk : IsBools w0 ko len cap ks) :
    Calls Try.prog 17 #[.pointer (some ⟨p, 0, none⟩), .slice ko len cap] w fun e w' => e = .returned (.tuple #[]) ∧ DX w0 w' p r xs (D.crashed ks) R ∧ Kept2 xs [] w w' := by
  obtain ⟨fp, gp, x⟩ := h
  have := crash_ok p ko cap ks w fp D x.dev (by omega) (by rw [hk.1]; exact hk.2.1) (keep_of hk x.below fp x.f0)
  rw [hk.1] at this
  refine this.mono ?_
  rintro e w' ⟨rfl, a1, a2⟩
  obtain ⟨y, hk⟩ := x.stepP [] (by simp) a2 a1 (fun k hk => .inl hk)
  exact ⟨rfl, ⟨_, _, y⟩, a2.size, hk⟩
theorem rl_crash (ko : Option Addr) (len cap : Nat) (ks : List Bool) (h : DX w0 w p r xs D R) (hW : R.W.length ≤ 800000) (hk : IsBools w0 ko len cap ks) :
    Calls Try.prog 18 #[.pointer (some ⟨r, 0, none⟩), .slice ko len cap] w fun e w' => e = .returned (.tuple #[]) ∧ DX w0 w' p r xs D (R.crashed ks) ∧ Kept2 xs [] w w' := by
  obtain ⟨fp, gp, x⟩ := h
  have := rcrash_dev r ko cap ks w gp R x.ref x.rwf.pos (fun y hy => (x.rwf.ent y hy).1) (by omega) (by rw [hk.1]; exact hk.2.1) (keep_of hk x.below gp x.g0)
  rw [hk.1] at this
  refine this.mono ?_
  rintro e w' ⟨rfl, a1, a2⟩
  obtain ⟨y, hk⟩ := x.stepR [] (by simp) a2 a1 (wf_crash x.rwf ks) (fun k hk => .inl hk)
  exact ⟨rfl, ⟨_, _, y⟩, a2.size, hk⟩
end
end Go.Proofs.Ytkdlggobbkedmaa
