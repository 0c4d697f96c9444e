/- behindCheckpoint where there is one. -/
import Derived.Test.YtpjppolbkdnkaaaPassA
namespace Go.Proofs.Ytpjppolbkdnkaaa
open Go.RowKit Go.Shelf
set_option linter.unusedVariables false
set_option linter.unusedSimpArgs false
attribute [local go_sem] Oper.semAt_some

theorem calls_round {l n : Nat} {P : Program} {f : FuncId} {args : Array Value} {w : World} {R : Ending → World → Prop} (h : Calls P f args w R) : CallsIn (Fence.wide.inRound l) n P f args w R := (callsIn_wide (n := n)).2 h
section
variable {w0 w w' : World} {R bt bd n m : Nat} {lg : Sv} {T : Int → Option Tx} {F : Int → Option Int} {C : Int}
theorem AnaIs.stayB (x : AnaIs w0 w R bt bd n m lg T F C) {B : Nat} (hb : Below B w w') (hR : R < B) (ht : bt < B) (hd : bd < B) (h0 : w0.heap.size ≤ B) : AnaIs w0 w' R bt bd n m lg T F C :=
  { x with head := (hb.block R hR).trans x.head, mt := x.mt.stay (hb.block bt ht), md := x.md.stay (hb.block bd hd), below := x.below.trans (hb.mono h0) }
theorem AnaIs.kept (x : AnaIs w0 w R bt bd n m lg T F C) {row : Option Nat} (hg : w.grownBy w' row) (hr : ∀ r, row = some r → r ≠ R ∧ r ≠ bt ∧ r ≠ bd ∧ w0.heap.size ≤ r) : AnaIs w0 w' R bt bd n m lg T F C :=
  { x with
    head := (hg.block R x.lt (fun e => (hr R e.symm).1 rfl)).trans x.head
    mt := x.mt.stay (hg.block bt x.mt.lt (fun e => (hr bt e.symm).2.1 rfl))
    md := x.md.stay (hg.block bd x.md.lt (fun e => (hr bd e.symm).2.2.1 rfl))
    below := x.below.grown hg x.below.size (fun k e => (hr k e).2.2.2) }
/-- The map of dirty pages has been changed. -/
theorem AnaIs.offD (x : AnaIs w0 w R bt bd n m lg T F C) {m' : Nat} {F' : Int → Option Int} (hO : Off [bd] w w') (h : MapI w' bd m' F') : AnaIs w0 w' R bt bd n m' lg T F' C :=
  { x with
    head := (hO.block R x.lt (by simpa using x.n2)).trans x.head
    mt := x.mt.stay (hO.block bt x.mt.lt (by simpa using x.n3))
    md := h
    below := x.below.trans ⟨hO.os, hO.tape, hO.output, hO.size, fun k hk => hO.block k (Nat.lt_of_lt_of_le hk x.below.size) (by have := x.d0; simp only [List.mem_singleton]; omega)⟩ }
end
set_option maxRecDepth 100000 in
set_option maxHeartbeats 4000000 in
theorem behindC_in (F : Fence) (n : Nat) (h4 : F.fn 38) (h6 : F.fn 33) (h8 : F.fn 49) (h35 : F.fn 35) (hro : F.round = none) (hn : 3 ≤ n) (hIn : ∀ (l : Nat) (f : FuncId) (args : Array Value) (w : World) (R : Ending → World → Prop), Calls Try.prog f args w R → CallsIn (F.inRound l) (n - 1 - 1 - 1) Try.prog f args w R) {w0 w : World} {R bt bd n0 m : Nat} {lg : Sv} {T : Int → Option Tx} {Fm : Int → Option Int} {C : Int} (X : AnaIs w0 w R bt bd n0 m lg T Fm C) (L : List Ln) (len : Nat) (hlen : L.length = len) (hln : lg.n = len) (hcap : len ≤ lg.c) (b o : Nat) (hla : lg.a = some ⟨b, o, none⟩) (hL : LinesAt w0 lg.a L)
    (ic : Nat) (cl : Ln) (hc : L[ic]? = some cl) (h7 : cl.kind = 7) (hone : ∀ i x, L[i]? = some x → x.kind = 7 → i = ic) (hic : ic + 1 < len) (hst : cl.st.n = 0) (D : List (Int × Int)) (hD : DirtsAt w0 cl.sd.a D) (hdn : cl.sd.n = D.length) (hm : m ≤ 1000000) :
    CallsIn F n Try.prog 38 #[.pointer (some ⟨R, 0, none⟩)] w fun e W' => e = .returned (.slice (some ⟨b, o + (ic + 1) * 12, none⟩) (len - (ic + 1)) (lg.c - (ic + 1))) ∧ AnaIs w0 W' R bt bd n0 (m + D.length) lg T (soil Fm D) cl.count := by
  have hR : w.cell? ⟨R, 0, none⟩ = some (.slice lg.a len lg.c) := by rw [← hln]; exact X.c0
  have hRl := X.lt
  have hbl := X.mt.lt
  have hdl := X.md.lt
  have hw0 := X.below.size
  have hlenM : len ≤ 1000000 := by rw [← hlen]; exact hL.1
  have hicl : ic < len := by rw [← hlen]; exact (List.getElem?_eq_some_iff.1 hc).1
  have h1 : 1 ≤ n := by omega
  have h2 : 1 ≤ n - 1 - 1 := by omega
  have HLA := hide hla
  obtain ⟨la, hla2⟩ : ∃ la, lg.a = la := ⟨_, rfl⟩
  rw [hla2] at hR
  have HLA2 := hide hla2
  clear hla hla2
  have HIN := hide hIn
  clear hIn
  refine callsIn_of_wp_marks Try.func38 rfl h4 ?_ hro
  simp only [Try.ntmps38, List.size_toArray, List.length_cons, List.length_nil, Nat.reduceAdd, Nat.reduceSub, Array.replicate_succ, Array.replicate_zero, List.push_toArray, List.append_toArray, List.nil_append, List.cons_append]
  gi_wp2_with (gi_at_call 33; refine (down_in F (n - 1) h6 hro _ _ _ _).mono ?_; rintro e w' ⟨rfl, rfl⟩)
  have bT := Boxed.new w 94 (.pointer (some ⟨R, 0, none⟩))
  have bR := Boxed.new (w.alloc (.cells #[.pointer (some ⟨R, 0, none⟩)] 94)) 23 (.slice none 0 0)
  have bN := Boxed.new ((w.alloc (.cells #[.pointer (some ⟨R, 0, none⟩)] 94)).alloc (.cells #[.slice none 0 0] 23)) 23 (.slice la len lg.c)
  rw [World.size_alloc] at bR
  rw [World.size_alloc, World.size_alloc] at bN
  have bT := (bT.alloc (.cells #[.slice none 0 0] 23)).alloc (.cells #[.slice la len lg.c] 23)
  have bR := bR.alloc (.cells #[.slice la len lg.c] 23)
  have hB0 : Below w.heap.size w (((w.alloc (.cells #[.pointer (some ⟨R, 0, none⟩)] 94)).alloc (.cells #[.slice none 0 0] 23)).alloc (.cells #[.slice la len lg.c] 23)) := (((Below.refl _ w).alloc (Nat.le_refl _) _).alloc (by simp) _).alloc (by simp; omega) _
  have hsz : (((w.alloc (.cells #[.pointer (some ⟨R, 0, none⟩)] 94)).alloc (.cells #[.slice none 0 0] 23)).alloc (.cells #[.slice la len lg.c] 23)).heap.size = w.heap.size + 3 := by simp
  obtain ⟨W0, hW0⟩ : ∃ W0, ((w.alloc (.cells #[.pointer (some ⟨R, 0, none⟩)] 94)).alloc (.cells #[.slice none 0 0] 23)).alloc (.cells #[.slice la len lg.c] 23) = W0 := ⟨_, rfl⟩
  rw [hW0] at bT bR bN hB0 hsz ⊢
  clear hW0
  have X0 := X.stayD hB0
  refine wpIn_rangeFunc_ownH hro h1 (gf := 49) (lb := #[.pointer (some ⟨w.heap.size + 1 + 1, 0, none⟩)]) rfl h8 (enters_of Try.func49 (by kernel_rfl) rfl)
    (downs_stops F (n - 1) h8 hro (by omega) (w.heap.size + 1 + 1) la len lg.c L hlen W0 (by omega) bN.cell (HLA2.out ▸ hL.below X0.below)) belowK_t (belowK_b (Nat.le_refl _)) (Below.refl _ _) (fun _ => rfl)
    (fun pre W => ((∀ p ∈ pre, p.1.2.kind ≠ 7) ∧ Boxed W w.heap.size 94 (.pointer (some ⟨R, 0, none⟩)) ∧ Boxed W (w.heap.size + 1) 23 (.slice none 0 0)) ∧ Below W0.heap.size W0 W)
    (fun c pre W => (c = .ret ∧ W.cell? ⟨w.heap.size + 1, 0, none⟩ = some (.slice (some ⟨b, o + (ic + 1) * 12, none⟩) (len - (ic + 1)) (lg.c - (ic + 1)))) ∧ AnaIs w0 W R bt bd n0 (m + D.length) lg T (soil Fm D) cl.count)
    (OwnFrom.and (Own.from (fun s A B row hs hg hr => ⟨hs.1, cellsOwn hs.2.1 hg hr, cellsOwn hs.2.2 hg hr⟩) _) (ownFrom_below (Nat.le_refl _) (Nat.le_refl _)))
    (fun c => OwnFrom.and (Own.from (fun s A B row hs hg hr => ⟨hs.1, cell_kept hs.2 hg hr⟩) _) (fun s A B row hs hg hr => hs.kept hg (fun r e => by have := (hr r e).1; omega)))
    ⟨⟨by simp, bT, bR⟩, Below.refl _ _⟩
    (fun x a' W => ∃ Bx, w.heap.size + 1 < Bx ∧ W.heap[Bx]? = some (.cells (lnCells x.1.2).toArray 34 (0, 0)) ∧ a' = { tmps := #[.pointer (some ⟨R, 0, none⟩), .pointer (some ⟨w.heap.size, 0, none⟩), .pointer (some ⟨w.heap.size + 1, 0, none⟩), .int .i64 (x.1.1 : Int), .pointer (some ⟨Bx, 0, none⟩), undef, undef, .pointer (some ⟨R, 0, none⟩), .pointer (some ⟨R, 0, none⟩), .pointer (some ⟨R, 0, none⟩), .slice la len lg.c, .func (.func 49) #[] #[.pointer (some ⟨w.heap.size + 1 + 1, 0, none⟩)], .int .i64 (x.1.1 : Int), .agg (lnCells x.1.2).toArray, undef, undef, undef, undef, undef, undef, undef, undef, undef, undef, undef, undef, undef, undef, undef, undef, undef, undef, undef, undef, undef, undef, undef, undef, undef, undef, undef, undef, undef, undef, undef, undef, undef, undef, undef, undef, undef, undef, undef, undef, undef, undef], defers := [] })
    (fun x a' _ X Y row hs hg hr => by obtain ⟨Bx, h1, h2, h3⟩ := hs; exact ⟨Bx, h1, cellsOwn h2 hg (fun r e => (hr r e).2), h3⟩)
    ?assign ?body ?done ?stop
  case assign =>
    rintro l pre x W K ⟨⟨hp, bT1, bR1⟩, hB1⟩ hK
    unfold dEnc lnCells recCells
    gi_wp2
    exact hK _ _ ((KeepsOthers.alloc _ _).from _) ((Below.refl _ W).alloc hB1.size _) ⟨⟨hp, bT1.alloc _, bR1.alloc _⟩, hB1.alloc hB1.size _⟩ ⟨W.heap.size, by have := hB1.size; omega, heap_alloc_new _ _, rfl⟩
  case body =>
    rintro l pre x a' W hl hr ⟨⟨hp, bT1, bR1⟩, hB1⟩ ⟨Bx, hBx, bX, rfl⟩ hlt
    have c3 : W.cell? ⟨Bx, 1, none⟩ = some (.int .i64 x.1.2.kind) := by rw [cell_of_row _ _ _ _ _ _ bX]; rfl
    by_cases hx : x.1.2.kind = 7
    · have hxb : (x.1.2.kind != 7) = false := by simp [hx]
      have hxi : x.1.1 = ic := hone _ _ x.2 hx
      have hxc : x.1.2 = cl := by have := x.2; rw [hxi, hc] at this; injection this with this; exact this.symm
      rw [hxi]
      have e9 : W.cell? ⟨Bx, 9, none⟩ = some (.slice cl.st.a 0 cl.st.c) := by rw [cell_of_row _ _ _ _ _ _ bX, hxc, ← hst]; rfl
      have e10 : W.cell? ⟨Bx, 10, none⟩ = some (.slice cl.sd.a D.length cl.sd.c) := by rw [cell_of_row _ _ _ _ _ _ bX, hxc, ← hdn]; rfl
      have e11 : W.cell? ⟨Bx, 11, none⟩ = some (.int .i64 cl.count) := by rw [cell_of_row _ _ _ _ _ _ bX, hxc]; rfl
      have c1 := bT1.cell
      have c2 := bR1.cell
      have f2 := bR1.frozen
      have XW := X0.stayB hB1 (by omega) (by omega) (by omega) (by omega)
      have HS := hide (HIN.out l _ _ _ _ (soil_any W R bd m Fm cl.sd.a cl.sd.c D hm XW.c2 X.n2 XW.md ⟨hD.1, fun i y hy => by
        obtain ⟨q1, q2, b', o', q3, q4, q5⟩ := hD.2 i y hy
        exact ⟨q1, q2, b', o', q3, Nat.lt_of_lt_of_le q4 XW.below.size, fun j v hv => (XW.below.cell (p := ⟨b', o' + i * 2 + j, none⟩) q4).trans (q5 j v hv)⟩⟩ (fun b' o' hb' hDn => by
          obtain ⟨y, hy⟩ : ∃ y, D[0]? = some y := ⟨_, List.getElem?_eq_getElem (by cases D with | nil => exact absurd rfl hDn | cons _ _ => simp)⟩
          obtain ⟨_, _, b2, o2, q3, q4, _⟩ := hD.2 0 y hy
          rw [hb'] at q3
          injection q3 with q3
          injection q3 with q3 _
          have := X.d0
          omega)))
      have cR0 := XW.c0
      have cR3 := XW.c3
      have fR3 := XW.f3
      rw [HLA2.out, hln] at cR0
      gi_wp2
      gi_loopw [22] (fun i wr => i = .int .i64 0 ∧ wr = W) (fun _ _ => 0)
      case atStart => exact ⟨rfl, rfl⟩
      case round =>
        obtain ⟨rfl, rfl⟩ := hrel
        gi_wp2
        refine HS.out.mono ?_
        rintro e W2 ⟨rfl, hM2, hO2⟩
        have XW2 := XW.offD hO2 hM2
        have d0 := XW2.c0
        have d3 := XW2.c3
        have g3 := XW2.f3
        rw [HLA2.out, hln] at d0
        have hOb : ∀ q, w.heap.size ≤ q → q < wr.heap.size → W2.heap[q]? = wr.heap[q]? := fun q hq hqs => hO2.block q hqs (fun h => by have h := List.mem_singleton.1 h; omega)
        have hBT := (Array.getElem?_eq_some_iff.1 (show wr.heap[w.heap.size]? = _ from bT1)).1
        have hBR := (Array.getElem?_eq_some_iff.1 (show wr.heap[w.heap.size + 1]? = _ from bR1)).1
        have hBXl := (Array.getElem?_eq_some_iff.1 bX).1
        have d1 : W2.cell? ⟨w.heap.size, 0, none⟩ = _ := (World.cell?_of_block (a := ⟨w.heap.size, 0, none⟩) (hOb w.heap.size (Nat.le_refl _) hBT)).trans c1
        have bR2 : Boxed W2 (w.heap.size + 1) 23 (.slice none 0 0) := (hOb (w.heap.size + 1) (by omega) hBR).trans bR1
        have d2 := bR2.cell
        have d2f := bR2.frozen
        have d11 : W2.cell? ⟨Bx, 11, none⟩ = _ := (World.cell?_of_block (a := ⟨Bx, 11, none⟩) (hOb Bx (by omega) hBXl)).trans e11
        have XW3 := XW2.count cl.count
        have k0 := XW3.c0
        rw [HLA2.out, hln] at k0
        have hla4 := HLA2.out.symm.trans HLA.out
        rw [hla4] at k0 d0
        have hcne : ¬ (lg.c - (ic + 1) = 0) := by omega
        clear cR0 cR3 fR3 c1 c2 f2 e9 e10 e11 hxb c3 hr
        gi_wp2
        have dR : (W2.setCell ⟨R, 3, none⟩ (.int .i64 cl.count)).cell? ⟨w.heap.size + 1, 0, none⟩ = some (.slice none 0 0) := (World.cell?_of_block (a := ⟨w.heap.size + 1, 0, none⟩) (heap_setCell_other _ _ _ _ (by show w.heap.size + 1 ≠ R; omega))).trans d2
        refine ⟨?_, ⟨rfl, World.cell?_setCell_same' _ _ _ (by rw [dR]; rfl)⟩, XW3.kept (grownBy_setCell' _ _ _) (fun r e => by cases e; omega)⟩
        exact KeepsFrom.trans (KeepsFrom.trans ⟨hO2.size, fun k o hB hk _ => (hO2.block k (Array.getElem?_eq_some_iff.1 hk).1 (fun h => by have h := List.mem_singleton.1 h; omega)).trans hk⟩ ((KeepsOthers.setCell _ _ _).from _)) ((KeepsOthers.setCell _ _ _).from _)
    · have hxb : (x.1.2.kind != 7) = true := by simp [hx]
      gi_wp2
      exact ⟨KeepsFrom.refl _ _, Below.refl _ _, ⟨fun p hp' => (List.mem_append.1 hp').elim (hp p) (fun e => by simp at e; subst e; exact hx), bT1, bR1⟩, hB1⟩
  case done =>
    rintro Dd ys W hDd hys ⟨⟨hne, bT1, bR1⟩, hB1⟩ hK
    exfalso
    have hmem : (ic, cl) ∈ downs L len := by
      unfold downs
      refine List.mem_map.2 ⟨len - 1 - ic, List.mem_range.2 (by omega), ?_⟩
      unfold downAt
      have e : L.length - 1 - (len - 1 - ic) = ic := by omega
      rw [e, hc]
      rfl
    rw [← hys] at hmem
    obtain ⟨p, hp, hpe⟩ := List.mem_map.1 hmem
    refine hne p hp ?_
    have : p.1 = (ic, cl) := hpe
    rw [this]
    exact h7
  case stop =>
    rintro Dd c pre W hDd _ ⟨⟨rfl, hcr⟩, hA⟩ hK
    gi_wp2
    refine ⟨by simp, .inl ⟨_, _, rfl, run_takeDeferred hK, ?_⟩⟩
    have hc5 := cell_kept hcr (grownBy_putObj' _ Dd (.deferred none)) (fun r e => by cases e; exact ⟨_, hK, rfl⟩)
    refine ⟨_, ?_, rfl, hA.kept (grownBy_putObj' _ Dd (.deferred none)) (fun r e => by cases e; omega)⟩
    simp [results, Try.f38, go_sem, hc5]
theorem behindC_any {w0 w : World} {R bt bd n0 m : Nat} {lg : Sv} {T : Int → Option Tx} {Fm : Int → Option Int} {C : Int} (X : AnaIs w0 w R bt bd n0 m lg T Fm C) (L : List Ln) (len : Nat) (hlen : L.length = len) (hln : lg.n = len) (hcap : len ≤ lg.c) (b o : Nat) (hla : lg.a = some ⟨b, o, none⟩) (hL : LinesAt w0 lg.a L)
    (ic : Nat) (cl : Ln) (hc : L[ic]? = some cl) (h7 : cl.kind = 7) (hone : ∀ i x, L[i]? = some x → x.kind = 7 → i = ic) (hic : ic + 1 < len) (hst : cl.st.n = 0) (D : List (Int × Int)) (hD : DirtsAt w0 cl.sd.a D) (hdn : cl.sd.n = D.length) (hm : m ≤ 1000000) :
    Calls Try.prog 38 #[.pointer (some ⟨R, 0, none⟩)] w fun e W' => e = .returned (.slice (some ⟨b, o + (ic + 1) * 12, none⟩) (len - (ic + 1)) (lg.c - (ic + 1))) ∧ AnaIs w0 W' R bt bd n0 (m + D.length) lg T (soil Fm D) cl.count :=
  (callsIn_wide (n := 6)).1 (behindC_in Fence.wide 6 trivial trivial trivial trivial rfl (by omega) (fun l f args w R h => calls_round h) X L len hlen hln hcap b o hla hL ic cl hc h7 hone hic hst D hD hdn hm)
set_option maxHeartbeats 2000000 in
set_option maxRecDepth 100000 in
theorem passG_any {w0 w : World} {R bt bd : Nat} {lg : Sv} {T : Int → Option Tx} {F : Int → Option Int} {C : Int} (L : List Ln) (la : Option Addr) (lc n m : Nat)
    (hL : LinesAt w0 la L) (hB : Calls Try.prog 38 #[.pointer (some ⟨R, 0, none⟩)] w fun e w1 => e = .returned (.slice la L.length lc) ∧ AnaIs w0 w1 R bt bd n m lg T F C) (hn : n + L.length ≤ 800000) (hm : m + L.length ≤ 800000) (hC : 0 ≤ C ∧ C + L.length ≤ 800000) :
    Calls Try.prog 20 #[.pointer (some ⟨R, 0, none⟩), .int .i64 0] w fun e w' => e = .returned (.tuple #[]) ∧ ∃ n' m', n' ≤ n + L.length ∧ m' ≤ m + L.length ∧ AnaIs w0 w' R bt bd n' m' lg (learnN ⟨T, F, C⟩ L).T (learnN ⟨T, F, C⟩ L).F (learnN ⟨T, F, C⟩ L).C := by
  obtain ⟨hC1, hC2⟩ := hC
  obtain ⟨kn, hkn⟩ : ∃ kn, L.length = kn := ⟨_, rfl⟩
  rw [hkn] at hB
  have HB := hide hB
  have HKN := hide hkn
  have HK := hide hL
  rw [hkn] at hn hm hC2 ⊢
  clear hL hkn hB
  go_enter Try.func20, Try.ntmps20
  go_wp2
  refine wp_scope_fwd 1 ?_
  go_wp2
  go_step3
  refine ⟨_, rfl, ?_⟩
  go_wp2_with (go_at_call 38; refine HB.out.mono ?_; rintro e w1 ⟨rfl, h3⟩; have HX1 := hide h3; clear h3)
  go_loopw [18] (fun i wr => ∃ (j n' m' : Nat), j ≤ kn ∧ i = .int .i64 j ∧ n' ≤ n + j ∧ m' ≤ m + j ∧ AnaIs w0 wr R bt bd n' m' lg (learnN ⟨T, F, C⟩ (L.take j)).T (learnN ⟨T, F, C⟩ (L.take j)).F (learnN ⟨T, F, C⟩ (L.take j)).C) (fun i _ => kn - (iv i).toNat)
  case atStart => exact ⟨0, n, m, by omega, rfl, by omega, by omega, HX1.out⟩
  case round =>
    obtain ⟨j, n', m', hj, rfl, hn', hm', hX⟩ := hrel
    have HX2 := hide hX
    by_cases hlt : j < kn
    · obtain ⟨x, hx⟩ : ∃ x, L[j]? = some x := ⟨_, List.getElem?_eq_getElem (by rw [HKN.out]; exact hlt)⟩
      obtain ⟨hok, b, o, hab, hbl, hrg⟩ := HK.out.2 j x hx
      have HRG : Hid (wr.rangeAt b (o + j * 12) (lnCells x)) := fun q v hv => (hX.below.cell (p := ⟨b, o + j * 12 + q, none⟩) hbl).trans (hrg q v hv)
      have HTK : Hid (learnN ⟨T, F, C⟩ (L.take (j + 1)) = learn1 (learnN ⟨T, F, C⟩ (L.take j)) x) := by
        show _ = _
        obtain ⟨hl', hx'⟩ := List.getElem?_eq_some_iff.1 hx
        rw [← hx', ← learnN_snoc, List.take_succ_eq_append_getElem hl']
      have hCj : 0 ≤ (learnN ⟨T, F, C⟩ (L.take j)).C ∧ (learnN ⟨T, F, C⟩ (L.take j)).C ≤ 1000000 := by
        have h1 := learnN_count (L.take j) ⟨T, F, C⟩
        have h2 : (L.take j).length ≤ kn := by rw [List.length_take, HKN.out]; omega
        have h3 : (An.mk T F C).C = C := rfl
        omega
      unfold lnCells recCells at HRG
      clear hX hrg hx
      obtain ⟨S, hS⟩ : ∃ S, learnN ⟨T, F, C⟩ (L.take j) = S := ⟨_, rfl⟩
      rw [hS] at HX2 HTK hCj
      clear hS
      rw [hab]
      go_upto_region 7 with (refine wpList_load_mid (by rfl) 34 _ (by rfl) b (o + j * 12) (by rfl) _ _ HRG.out Try.underlying34 rfl Try.size34n ?_)
      generalize hx1 : wr.alloc _ = x1
      have hG : x1.heap[wr.heap.size]? = some (.cells (lnCells x).toArray 34 (0, 0)) := by rw [← hx1]; exact heap_alloc_new _ _
      have HRG2 : Hid (x1.rangeAt wr.heap.size 0 (lnCells x)) := fun q v hv => by rw [Nat.zero_add, cell_of_row _ _ _ _ _ _ hG]; simpa using hv
      have HX3 : Hid (AnaIs w0 x1 R bt bd n' m' lg S.T S.F S.C) := HX2.out.stayD (by rw [← hx1]; exact (Below.refl _ _).alloc (Nat.le_refl _) _)
      have HAG := hide (learn_any HX3.out x hok (by omega) (by omega) hCj)
      unfold lnCells recCells at HAG HRG2
      clear hx1 hG HX2 HRG
      generalize wr.heap.size = g at *
      go_wp2_with (first
        | (refine wpList_load_mid (by rfl) 34 _ (by rfl) g 0 (by rfl) _ _ HRG2.out Try.underlying34 rfl Try.size34n ?_)
        | (go_at_call 39; refine HAG.out.mono ?_; rintro e x2 ⟨rfl, n2, m2, hn2, hm2, hX4⟩; have HX4 := hide hX4; clear hX4))
      go_roundw
      case rel =>
        refine ⟨j + 1, n2, m2, by omega, by go_num, by omega, by omega, ?_⟩
        rw [HTK.out]
        exact HX4.out
      case measure => simp [iv]; omega
    · obtain rfl : j = kn := by omega
      go_wp2
      rw [Exit.jumps_ret]
      refine bodyPost_ret (results_none rfl _ _ _) rfl ?_
      refine ⟨rfl, n', m', by omega, by omega, ?_⟩
      have e : L.take j = L := List.take_of_length_le (by rw [HKN.out]; omega)
      rw [e] at HX2
      exact HX2.out
end Go.Proofs.Ytpjppolbkdnkaaa
