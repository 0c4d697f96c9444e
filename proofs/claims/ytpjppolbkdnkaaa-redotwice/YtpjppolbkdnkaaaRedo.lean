/- Redo. -/
import Derived.Test.YtpjppolbkdnkaaaPass
namespace Go.Proofs.Ytpjppolbkdnkaaa
open Go.RowKit
set_option linter.unusedVariables false
set_option linter.unusedSimpArgs false

theorem none_any (p : Int) (w : World) : Calls Try.prog 34 #[.int .i64 p] w fun e w' => e = .returned (.int .i64 0) ∧ Below w.heap.size w w' := by
  go_enter Try.func34, Try.ntmps34
  go_wp2
  go_ret
  exact ⟨rfl, Below.refl _ _⟩
/-- A function that tells nought of every page. -/
def Ask.none : Ask where
  g := 34
  cb := #[]
  f := fun _ => 0
  held := fun _ => True
  stay := fun _ _ _ _ => trivial
  enters := fun args w => by kernel_rfl
  fin := fun p => by simp [In64]
  call := fun w p _ _ => none_any p w

/-- A log that came in. -/
structure LogAt (w : World) (lg : Sv) (L : List Ln) : Prop where
  n : lg.n = L.length
  cap : L.length ≤ lg.c
  nil : lg.a = none → L = [] ∧ lg.c = 0
  addr : ∀ a, lg.a = some a → L ≠ [] → ∃ b o, a = ⟨b, o, none⟩
  lines : LinesAt w lg.a L
theorem RedoIs.soiled {A : Ask} {w0 w w' : World} {R bd bh n m n' : Nat} {lg : Sv} {red : Value} {f h f' : Int → Option Int} {out : List Int} (x : RedoIs A w0 w R bd bh n m lg red f h out) (hO : Off [bd] w w') (hM : MapI w' bd n' f') : RedoIs A w0 w' R bd bh n' m lg red f' h out where
  head := (hO.block R x.lt (by simpa using x.n1)).trans x.head
  md := hM
  mh := x.mh.stay (hO.block bh x.mh.lt (by simpa using fun e => x.n3 e.symm))
  own := owns_of_block x.own (fun k hk => hO.block k (by
    rcases x.own.2 with ⟨e, _⟩ | ⟨g, c, cur, e, _, hg, _⟩
    · rw [e] at hk; cases hk
    · rw [e] at hk; cases hk; exact (Array.getElem?_eq_some_iff.1 hg).1) (by
    simp only [List.mem_singleton]
    intro e; rw [e] at hk; exact x.n5 hk))
  below := x.below.trans ⟨hO.os, hO.tape, hO.output, hO.size, fun k hk => hO.block k (Nat.lt_of_lt_of_le hk x.below.size) (by simp only [List.mem_singleton]; intro e; have := x.d0; omega)⟩
  r0 := x.r0
  d0 := x.d0
  h0 := x.h0
  o0 := x.o0
  n1 := x.n1
  n2 := x.n2
  n3 := x.n3
  n4 := x.n4
  n5 := x.n5
  n6 := x.n6
  ask := x.ask
theorem LogAt.below {w w' : World} {lg : Sv} {L : List Ln} (h : LogAt w lg L) (hb : Below w.heap.size w w') : LogAt w' lg L := ⟨h.n, h.cap, h.nil, h.addr, h.lines.below hb⟩
def noMap : Int → Option Int := fun _ => Option.none
def redoOf (A : Ask) (D : List (Int × Int)) (L : List Ln) : List Int := (againN A (soil noMap D) (noMap, []) L).2

set_option maxHeartbeats 2000000 in
set_option maxRecDepth 100000 in
theorem redo_any (A : Ask) (w : World) (lg : Sv) (L : List Ln) (da : Option Addr) (D : List (Int × Int)) (dc : Nat) (hA : A.held w) (hL : LogAt w lg L) (hR : Rises L) (hD : DirtsAt w da D) (hl : L.length ≤ 100000) (hd : D.length ≤ 100000) :
    Calls Try.prog 16 #[.slice lg.a lg.n lg.c, .slice da D.length dc, .func (.func A.g) #[] A.cb] w fun e w' => ∃ v, e = .returned v ∧ w'.ownsRow 0 3 1 v (redoOf A D L).length (intCells (redoOf A D L)) ∧ Below w.heap.size w w' := by
  have q54 : ∀ W : World, (binOp .eql 54 (.func (.func A.g) #[] A.cb) .nilFunc).run Try.prog W = .ok (.bool false) W := fun W => by kernel_rfl
  have hmm := @run_makeMap Try.prog
  obtain ⟨dn, hdn⟩ : ∃ dn, D.length = dn := ⟨_, rfl⟩
  rw [hdn]
  have HDN := hide hdn
  have HL := hide hL
  have HD := hide hD
  have HR := hide hR
  have HA := hide hA
  have HG : Hid (∀ o : Obj, (((w.alloc (.map #[] 0)).alloc (.map #[] 0)).alloc o).heap[w.heap.size + 1 + 1]? = some o) := fun o => by
    have := World.alloc_heap_new ((w.alloc (.map #[] 0)).alloc (.map #[] 0)) o
    rwa [World.size_alloc, World.size_alloc] at this
  clear hL hD hR hA
  go_enter Try.func16, Try.ntmps16
  go_upto_region 2 with (refine wpList_store_row (by rfl) 72 _ _ (by rfl) (w.heap.size + 1 + 1) #[.slice lg.a lg.n lg.c, .map none, .map (some w.heap.size), .int .i64 0, .func (.func A.g) #[] A.cb, .map (some (w.heap.size + 1)), .slice none 0 0, .slice none 0 0, .slice none 0 0] (by rfl) (by rfl) 72 _ (HG.out _) (by kernel_rfl) (by rfl) (by simp [Value.oneCell']) ?_)
  generalize hx1 : World.setRow _ _ _ = x1
  have hlt2 : w.heap.size + 1 + 1 < (((w.alloc (.map #[] 0)).alloc (.map #[] 0)).alloc (.cells #[.slice none 0 0, .map none, .map none, .int .i64 0, .nilFunc, .map none, .slice none 0 0, .slice none 0 0, .slice none 0 0] 72)).heap.size := by simp
  have X1 : RedoIs A w x1 (w.heap.size + 1 + 1) w.heap.size (w.heap.size + 1) 0 0 lg (.slice none 0 0) noMap noMap [] := {
    head := by rw [← hx1]; exact setRow_heap _ _ _ _ _ _ (HG.out _)
    md := (MapI.made w).stay (by
      rw [← hx1]
      refine (setRow_other _ _ _ _ (by omega)).trans ?_
      refine (Below.heap_alloc _ _ _ (by simp; omega)).trans (Below.heap_alloc _ _ _ (by simp)))
    mh := by
      have := (MapI.made (w.alloc (.map #[] 0)))
      rw [World.size_alloc] at this
      refine this.stay ?_
      rw [← hx1]
      refine (setRow_other _ _ _ _ (by omega)).trans ?_
      refine (Below.heap_alloc _ _ _ (by simp))
    own := ⟨rfl, .inl ⟨rfl, rfl⟩⟩
    below := by
      rw [← hx1]
      exact (((((Off.refl [] w).alloc _).alloc _).alloc _).setRow _ _ (.inr (by omega))).below (Nat.le_refl _) (by simp)
    r0 := by omega
    d0 := Nat.le_refl _
    h0 := by omega
    o0 := fun k hk => by cases hk
    n1 := by omega
    n2 := by omega
    n3 := by omega
    n4 := fun hk => by cases hk
    n5 := fun hk => by cases hk
    n6 := fun hk => by cases hk
    ask := HA.out }
  have HX1 := hide X1
  have HSO := hide (soil_any x1 (w.heap.size + 1 + 1) w.heap.size 0 noMap da dc D (by omega) X1.c2 (by omega) X1.md ⟨HD.out.1, fun i x hx => by
    obtain ⟨h1, h2, b, o, h3, h4, h5⟩ := HD.out.2 i x hx
    exact ⟨h1, h2, b, o, h3, Nat.lt_of_lt_of_le h4 X1.below.size, fun j v hv => (X1.below.cell (p := ⟨b, o + i * 2 + j, none⟩) h4).trans (h5 j v hv)⟩⟩ (fun b o hab hne => by
      obtain ⟨q, hq⟩ : ∃ q, D[0]? = some q := ⟨_, List.getElem?_eq_getElem (List.length_pos_iff.2 hne)⟩
      obtain ⟨_, _, b', o', h3, h4, _⟩ := HD.out.2 0 q hq
      rw [hab] at h3
      injection h3 with h3
      injection h3 with h3
      omega))
  rw [HDN.out] at HSO
  have hb1 := X1.below
  clear hx1 hlt2 X1 HG
  generalize hR0 : w.heap.size + 1 + 1 = R at *
  generalize hB0 : w.heap.size + 1 = bh at *
  generalize hD0 : w.heap.size = bd at *
  go_wp2_with (first
    | (go_at_call 35; refine HSO.out.mono ?_; rintro e x2 ⟨rfl, hM2, hO2⟩
       have HX2 := hide (HX1.out.soiled hO2 hM2)
       have HPA := hide (passR_any HX2.out L HL.out.n HL.out.cap HL.out.nil HL.out.addr HL.out.lines HR.out (by omega) (by omega) (by simpa using by omega))
       clear hM2 hO2)
    | (go_at_call 20; refine HPA.out.mono ?_; rintro e x3 ⟨rfl, red, m3, hX3⟩
       have HX3 := hide hX3
       have c6 := hX3.c6
       clear hX3))
  go_ret
  exact ⟨red, rfl, HX3.out.own, hD0 ▸ HX3.out.below⟩
set_option maxHeartbeats 2000000 in
set_option maxRecDepth 100000 in
theorem redo_nil (w : World) (lg : Sv) (L : List Ln) (da : Option Addr) (D : List (Int × Int)) (dc : Nat) (hL : LogAt w lg L) (hR : Rises L) (hD : DirtsAt w da D) (hl : L.length ≤ 100000) (hd : D.length ≤ 100000) :
    Calls Try.prog 16 #[.slice lg.a lg.n lg.c, .slice da D.length dc, .nilFunc] w fun e w' => ∃ v, e = .returned v ∧ w'.ownsRow 0 3 1 v (redoOf Ask.none D L).length (intCells (redoOf Ask.none D L)) ∧ Below w.heap.size w w' := by
  have q54 : ∀ W : World, (binOp .eql 54 .nilFunc .nilFunc).run Try.prog W = .ok (.bool true) W := fun W => by kernel_rfl
  have hmm := @run_makeMap Try.prog
  obtain ⟨dn, hdn⟩ : ∃ dn, D.length = dn := ⟨_, rfl⟩
  rw [hdn]
  have HDN := hide hdn
  have HL := hide hL
  have HD := hide hD
  have HR := hide hR
  have HG : Hid (∀ o : Obj, (((w.alloc (.map #[] 0)).alloc (.map #[] 0)).alloc o).heap[w.heap.size + 1 + 1]? = some o) := fun o => by
    have := World.alloc_heap_new ((w.alloc (.map #[] 0)).alloc (.map #[] 0)) o
    rwa [World.size_alloc, World.size_alloc] at this
  clear hL hD hR
  go_enter Try.func16, Try.ntmps16
  go_upto_region 2 with (refine wpList_store_row (by rfl) 72 _ _ (by rfl) (w.heap.size + 1 + 1) #[.slice lg.a lg.n lg.c, .map none, .map (some w.heap.size), .int .i64 0, .nilFunc, .map (some (w.heap.size + 1)), .slice none 0 0, .slice none 0 0, .slice none 0 0] (by rfl) (by rfl) 72 _ (HG.out _) (by kernel_rfl) (by rfl) (by simp [Value.oneCell']) ?_)
  generalize hx0 : World.setRow _ _ _ = x0
  have hd0 : x0.heap[w.heap.size + 1 + 1]? = some (.cells #[.slice lg.a lg.n lg.c, .map none, .map (some w.heap.size), .int .i64 0, .nilFunc, .map (some (w.heap.size + 1)), .slice none 0 0, .slice none 0 0, .slice none 0 0] 72 (0, 0)) := by rw [← hx0]; exact setRow_heap _ _ _ _ _ _ (HG.out _)
  have c4 : x0.cell? ⟨w.heap.size + 1 + 1, 4, none⟩ = some .nilFunc := by rw [cell_of_row _ _ _ _ _ _ hd0]; rfl
  have f4 : x0.frozen? ⟨w.heap.size + 1 + 1, 4, none⟩ = false := frozen_of_row _ _ _ _ _ hd0
  have HD0 := hide hd0
  have HX0 := hide hx0
  have hst : (store ⟨w.heap.size + 1 + 1, 4, none⟩ (.func (.func 34) #[] #[])).run Try.prog x0 = .ok () (x0.setCell ⟨w.heap.size + 1 + 1, 4, none⟩ (.func (.func 34) #[] #[])) := by
    rw [run_store Try.prog x0 _ (.func (.func 34) #[] #[]) _ rfl]; simp [stored, c4, f4]
  clear hx0 hd0
  go_upto_region 4 with fail
  have hx0 := HX0.out
  generalize hx1 : World.setCell _ _ _ = x1
  have hlt2 : w.heap.size + 1 + 1 < (((w.alloc (.map #[] 0)).alloc (.map #[] 0)).alloc (.cells #[.slice none 0 0, .map none, .map none, .int .i64 0, .nilFunc, .map none, .slice none 0 0, .slice none 0 0, .slice none 0 0] 72)).heap.size := by simp
  have X1 : RedoIs Ask.none w x1 (w.heap.size + 1 + 1) w.heap.size (w.heap.size + 1) 0 0 lg (.slice none 0 0) noMap noMap [] := {
    head := by rw [← hx1]; exact (heap_setCell_same x0 (w.heap.size + 1 + 1) 4 _ 72 (.func (.func 34) #[] #[]) HD0.out).trans (by simp [Ask.none])
    md := (MapI.made w).stay (by
      rw [← hx1]
      refine (heap_setCell_other _ _ _ _ (by first | (simp; done) | (simp; omega))).trans ?_
      rw [← hx0]
      refine (setRow_other _ _ _ _ (by omega)).trans ?_
      refine (Below.heap_alloc _ _ _ (by simp; omega)).trans (Below.heap_alloc _ _ _ (by simp)))
    mh := by
      have := (MapI.made (w.alloc (.map #[] 0)))
      rw [World.size_alloc] at this
      refine this.stay ?_
      rw [← hx1]
      refine (heap_setCell_other _ _ _ _ (by first | (simp; done) | (simp; omega))).trans ?_
      rw [← hx0]
      refine (setRow_other _ _ _ _ (by omega)).trans ?_
      refine (Below.heap_alloc _ _ _ (by simp))
    own := ⟨rfl, .inl ⟨rfl, rfl⟩⟩
    below := by
      rw [← hx1, ← hx0]
      exact ((((((Off.refl [] w).alloc _).alloc _).alloc _).setRow _ _ (.inr (by omega))).setCell _ _ (.inr (by simp; omega))).below (Nat.le_refl _) (by simp)
    r0 := by omega
    d0 := Nat.le_refl _
    h0 := by omega
    o0 := fun k hk => by cases hk
    n1 := by omega
    n2 := by omega
    n3 := by omega
    n4 := fun hk => by cases hk
    n5 := fun hk => by cases hk
    n6 := fun hk => by cases hk
    ask := trivial }
  have HX1 := hide X1
  have HSO := hide (soil_any x1 (w.heap.size + 1 + 1) w.heap.size 0 noMap da dc D (by omega) X1.c2 (by omega) X1.md ⟨HD.out.1, fun i x hx => by
    obtain ⟨h1, h2, b, o, h3, h4, h5⟩ := HD.out.2 i x hx
    exact ⟨h1, h2, b, o, h3, Nat.lt_of_lt_of_le h4 X1.below.size, fun j v hv => (X1.below.cell (p := ⟨b, o + i * 2 + j, none⟩) h4).trans (h5 j v hv)⟩⟩ (fun b o hab hne => by
      obtain ⟨q, hq⟩ : ∃ q, D[0]? = some q := ⟨_, List.getElem?_eq_getElem (List.length_pos_iff.2 hne)⟩
      obtain ⟨_, _, b', o', h3, h4, _⟩ := HD.out.2 0 q hq
      rw [hab] at h3
      injection h3 with h3
      injection h3 with h3
      omega))
  rw [HDN.out] at HSO
  have hb1 := X1.below
  clear hx1 hlt2 X1 HG hx0 HX0 HD0 c4 f4
  generalize hR0 : w.heap.size + 1 + 1 = R at *
  generalize hB0 : w.heap.size + 1 = bh at *
  generalize hD0 : w.heap.size = bd at *
  go_wp2_with (first
    | (go_at_call 35; refine HSO.out.mono ?_; rintro e x2 ⟨rfl, hM2, hO2⟩
       have HX2 := hide (HX1.out.soiled hO2 hM2)
       have HPA := hide (passR_any HX2.out L HL.out.n HL.out.cap HL.out.nil HL.out.addr HL.out.lines HR.out (by omega) (by omega) (by simpa using by omega))
       clear hM2 hO2)
    | (go_at_call 20; refine HPA.out.mono ?_; rintro e x3 ⟨rfl, red, m3, hX3⟩
       have HX3 := hide hX3
       have c6 := hX3.c6
       clear hX3))
  go_ret
  exact ⟨red, rfl, HX3.out.own, hD0 ▸ HX3.out.below⟩
end Go.Proofs.Ytpjppolbkdnkaaa
