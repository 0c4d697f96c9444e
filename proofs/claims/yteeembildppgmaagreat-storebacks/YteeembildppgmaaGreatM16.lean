/- A part of it: ELists. -/
import Derived.Test.YteeembildppgmaaGreatM0
import Derived.Test.YteeembildppgmaaGreatM15
namespace Go.Proofs.YteeembildppgmaaGreat.Enc
open Go.RowKit
set_option linter.unusedVariables false
set_option linter.unusedSimpArgs false
theorem set_same {C : Array Value} {o : Nat} {v : Value} (h : C[o]? = some v) : C.setIfInBounds o v = C := by
 obtain ⟨hlt, he⟩ := Array.getElem?_eq_some_iff.1 h
 apply Array.ext
 · simp
 · intro i h1 h2
   rw [Array.getElem_setIfInBounds]
   split
   · rename_i e; subst e; exact he.symm
   · rfl
theorem getTx_cases (r : List UInt8) : (getNums 3 r = none ∧ getTx r = none) ∨ ∃ a b c r', getNums 3 r = some ([a, b, c], r') ∧ getTx r = some ((a, b, c), r') := by
 cases h : getNums 3 r with
 | none => exact .inl ⟨rfl, by simp [getTx, h]⟩
 | some x =>
   obtain ⟨l, r'⟩ := x
   have hl := (getNums_len 3 h).2
   match l, hl with
   | [a, b, c], _ => exact .inr ⟨a, b, c, r', rfl, by simp [getTx, h]⟩
theorem getDt_cases (r : List UInt8) : (getNums 2 r = none ∧ getDt r = none) ∨ ∃ a b r', getNums 2 r = some ([a, b], r') ∧ getDt r = some ((a, b), r') := by
 cases h : getNums 2 r with
 | none => exact .inl ⟨rfl, by simp [getDt, h]⟩
 | some x =>
   obtain ⟨l, r'⟩ := x
   have hl := (getNums_len 2 h).2
   match l, hl with
   | [a, b], _ => exact .inr ⟨a, b, r', rfl, by simp [getDt, h]⟩
def goOn {α : Type} (d : List α) : Option (List α × List UInt8) → Option (List α × List UInt8)
 | none => none
 | some (l, r) => some (d ++ l, r)
theorem goOn_step {α : Type} {f : List UInt8 → Option (α × List UInt8)} {k : Nat} {r r1 : List UInt8} {x : α} (d : List α) (h : f r = some (x, r1)) : goOn d (getMany f (k + 1) r) = goOn (d ++ [x]) (getMany f k r1) := by
 simp only [getMany, h]
 cases getMany f k r1 with
 | none => rfl
 | some y => obtain ⟨l, r2⟩ := y; simp [goOn]
theorem goOn_none {α : Type} {f : List UInt8 → Option (α × List UInt8)} {k : Nat} {r : List UInt8} (d : List α) (h : f r = none) : goOn d (getMany f (k + 1) r) = none := by
 simp only [getMany, h]; rfl
theorem goOn_end {α : Type} {f : List UInt8 → Option (α × List UInt8)} {r : List UInt8} (d : List α) : goOn d (getMany f 0 r) = some (d, r) := by
 simp [getMany, goOn]
theorem goOn_nil {α : Type} (X : Option (List α × List UInt8)) : goOn [] X = X := by
 cases X with
 | none => rfl
 | some y => obtain ⟨l, r2⟩ := y; rfl
def ListEnd {α : Type} (cells : List α → List Value) (E : TypeId) (size : Nat) (w0 w : World) (f q o : Nat) (C : Array Value) (t : TypeId) (X : Option (List α × List UInt8)) (e : Ending) (w' : World) : Prop :=
 Off [f, q] w w' ∧ match X with
 | none => e = .returned (.bool false) ∧ ∃ C', w'.heap[q]? = some (.cells C' t (0, 0)) ∧ C'.size = C.size
 | some (l, r') => e = .returned (.bool true) ∧ (∃ vl, w'.ownsRow w.heap.size E size vl l.length (cells l) ∧ w'.heap[q]? = some (.cells (C.setIfInBounds o vl) t (0, 0))) ∧ ∃ v', w'.heap[f]? = some (.cells #[v'] 179 (0, 0)) ∧ Sl w0 v' r'
theorem Tryz.info140 : (Tryz.prog.info? 140).map (fun i => (i.zero, i.size, i.bytes)) = some (some (.agg #[.int .i64 0, .int .i64 0, .int .i64 0]), 3, 24) := by kernel_rfl
theorem Tryz.info142 : (Tryz.prog.info? 142).map (fun i => (i.zero, i.size, i.bytes)) = some (some (.agg #[.int .i64 0, .int .i64 0]), 2, 16) := by kernel_rfl

theorem run_load66 (w : World) (q o : Nat) (cv : Value) (h : w.cell? ⟨q, o, none⟩ = some cv) : (Instr.loadAt 66 (.pointer (some ⟨q, o, none⟩))).run Tryz.prog w = .ok cv w := by
 have hu := Tryz.underlying66
 simp [go_sem, h]
theorem run_store66 (w : World) (q o : Nat) (u : Value) (ao : Option Addr) (m c : Nat) (h : w.cell? ⟨q, o, none⟩ = some u) (hf : w.frozen? ⟨q, o, none⟩ = false) :
 (Instr.storeAt 66 (.pointer (some ⟨q, o, none⟩)) (.slice ao m c)).run Tryz.prog w = .ok () (w.setCell ⟨q, o, none⟩ (.slice ao m c)) := by
 simp [go_sem, h, hf]
theorem Tryz.built66 (a b c : Int) (w : World) : (Instr.buildSlice 66 1 #[(0, .agg #[.int .i64 a, .int .i64 b, .int .i64 c])]).run Tryz.prog w = .ok (.slice (some ⟨w.heap.size, 0, none⟩) 1 1) (w.alloc (.cells #[.int .i64 a, .int .i64 b, .int .i64 c] 140)) := by kernel_rfl

set_option maxHeartbeats 2000000 in
theorem txns_any {w0 w : World} {f q o : Nat} {v : Value} {C : Array Value} {t : TypeId} {rest : List UInt8} (hB : Below w0.heap.size w0 w) (hf : w0.heap.size ≤ f) (hq0 : w0.heap.size ≤ q) (hfq : f ≠ q) (hR : w.heap[f]? = some (.cells #[v] 179 (0, 0))) (hv : Sl w0 v rest)
 (hq : w.heap[q]? = some (.cells C t (0, 0))) (hC : C[o]? = some (.slice none 0 0)) (ht : t ≠ 140) (hlen : rest.length ≤ 1000000000000) :
 Calls Tryz.prog 128 #[.pointer (some ⟨f, 0, none⟩), .pointer (some ⟨q, o, none⟩)] w fun e w' => ListEnd txCells 140 3 w0 w f q o C t (getList getTx rest) e w' := by
 cases hg : getNum rest with
 | none =>
   have HX : Hid (getList getTx rest = none) := by show _ = _; simp [getList, hg]
   have HC := hide (number_no hB hf hR hv hg)
   have HQ := hide hq
   clear hg hv hR hB hq
   go_enter Tryz.func128, Tryz.ntmps128
   go_wp2_with fail
   refine HC.out.mono ?_
   rintro e w1 ⟨rfl, rfl⟩
   go_wp2
   go_loopw [14] (fun i wr => i = .int .i64 0 ∧ wr = w1) (fun i _ => 0)
   case atStart => exact ⟨rfl, rfl⟩
   case round =>
    obtain ⟨rfl, rfl⟩ := hrel
    go_wp2
    go_ret
    rw [HX.out]
    exact ⟨Off.refl _ _, rfl, _, HQ.out, rfl⟩
 | some x =>
   obtain ⟨n0, r0⟩ := x
   have hnl := getNum_len hg
   obtain ⟨n, rfl⟩ : ∃ n : Nat, n0 = (n : Int) := ⟨n0.toNat, by omega⟩
   have hn62 : (n : Int) ≤ 4611686018427387904 := hnl.2.2.1
   have HX : Hid (getList getTx rest = goOn [] (getMany getTx n r0)) := by show _ = _; rw [goOn_nil]; simp [getList, hg]
   have HC := hide (number_ok hB hf hR hv hg)
   have HB := hide hB
   have HQ := hide hq
   have HR := hide hR
   have HL : Hid (24 * 0 + r0.length ≤ 1000000000000) := by show _ ≤ _; omega
   have hqs := lt_of_heap hq
   clear hg hv hR hB hq hnl hlen
   go_enter Tryz.func128, Tryz.ntmps128
   go_wp2_with fail
   refine HC.out.mono ?_
   rintro e w1 ⟨v1, rfl, rfl, hs1⟩
   have hO1 : Off [f, q] w (w.setCell ⟨f, 0, none⟩ v1) := (Off.refl _ _).setCell _ _ (.inl (by simp))
   have hR1 := heap_set_same (o := 0) v1 HR.out
   have hQ1 : (w.setCell ⟨f, 0, none⟩ v1).heap[q]? = some (.cells C t (0, 0)) := (heap_set_other (fun e => hfq e.symm)).trans HQ.out
   generalize w.setCell ⟨f, 0, none⟩ v1 = w1 at *
   go_wp2
   go_loopw [14] (fun i wr => ∃ (j : Nat) (d : List (Int × Int × Int)) (rj : List UInt8) (vj vt : Value), j ≤ n ∧ i = .int .i64 j ∧ d.length = j ∧ getList getTx rest = goOn d (getMany getTx (n - j) rj) ∧ 24 * j + rj.length ≤ 1000000000000 ∧ Off [f, q] w wr ∧ wr.heap[f]? = some (.cells #[vj] 179 (0, 0)) ∧ Sl w0 vj rj ∧ wr.ownsRow w.heap.size 140 3 vt j (txCells d) ∧ wr.heap[q]? = some (.cells (C.setIfInBounds o vt) t (0, 0))) (fun i _ => n - (intOf i).toNat)
   case atStart => exact ⟨0, [], r0, v1, .slice none 0 0, by omega, rfl, rfl, HX.out, HL.out, hO1, hR1, hs1, World.ownsRow_nil _ _ _ _, by rw [set_same hC]; exact hQ1⟩
   case round =>
    clear hO1 hR1 hQ1 hs1
    obtain ⟨j, d, rj, vj, vt, hj, rfl, hd, hX, hlj, hO, hRj, hvj, hown, hqj⟩ := hrel
    by_cases hlt : j < n
    · have hBj : Below w0.heap.size w0 wr := HB.out.trans (hO.below HB.out.size (fun i hi => by simp at hi; rcases hi with rfl | rfl <;> assumption))
      rw [show n - j = (n - j - 1) + 1 by omega] at hX
      have hfl := lt_of_heap hRj
      have hql := lt_of_heap hqj
      -- the world in which the numbers are read
      have hB2 : Below w0.heap.size w0 ((wr.alloc (.cells #[.int .i64 0, .int .i64 0, .int .i64 0] 140)).alloc (.cells #[.pointer (some ⟨wr.heap.size, 0, none⟩), .pointer (some ⟨wr.heap.size, 1, none⟩), .pointer (some ⟨wr.heap.size, 2, none⟩)] 159)) := (hBj.alloc hBj.size _).alloc (by have := hBj.size; simp; omega) _
      have hR2 : ((wr.alloc (.cells #[.int .i64 0, .int .i64 0, .int .i64 0] 140)).alloc (.cells #[.pointer (some ⟨wr.heap.size, 0, none⟩), .pointer (some ⟨wr.heap.size, 1, none⟩), .pointer (some ⟨wr.heap.size, 2, none⟩)] 159)).heap[f]? = some (.cells #[vj] 179 (0, 0)) := by
       rw [Below.heap_alloc _ _ _ (by simp; omega), Below.heap_alloc _ _ _ hfl]; exact hRj
      have hI2 : Into ((wr.alloc (.cells #[.int .i64 0, .int .i64 0, .int .i64 0] 140)).alloc (.cells #[.pointer (some ⟨wr.heap.size, 0, none⟩), .pointer (some ⟨wr.heap.size, 1, none⟩), .pointer (some ⟨wr.heap.size, 2, none⟩)] 159)) f wr.heap.size (wr.heap.size + 1) 0 3 #[.int .i64 0, .int .i64 0, .int .i64 0] 140 :=
       ⟨by rw [Below.heap_alloc _ _ _ (by simp)]; exact heap_alloc_new _ _, ⟨159, by
        have := heap_alloc_new (wr.alloc (.cells #[.int .i64 0, .int .i64 0, .int .i64 0] 140)) (.cells #[.pointer (some ⟨wr.heap.size, 0, none⟩), .pointer (some ⟨wr.heap.size, 1, none⟩), .pointer (some ⟨wr.heap.size, 2, none⟩)] 159)
        rw [show (wr.alloc (.cells #[.int .i64 0, .int .i64 0, .int .i64 0] 140)).heap.size = wr.heap.size + 1 by simp] at this
        exact this⟩, by omega, by omega, by omega, by simp, by omega⟩
      rcases getTx_cases rj with ⟨h1, h2⟩ | ⟨xa, xb, xc, r1, h1, h2⟩
      · have HC := hide (numbers_no hB2 hf (by have := hBj.size; omega) hR2 hvj hI2 h1)
        have HX2 := hide hX
        have HO := hide hO
        have HQJ := hide hqj
        clear hX hO hRj hvj hown hqj hB2 hR2 hI2 h1
        go_wp2_with fail
        refine HC.out.mono ?_
        rintro e w3 ⟨rfl, hO3, _⟩
        have HP : Hid (ListEnd txCells 140 3 w0 w f q o C t (getList getTx rest) (.returned (.bool false)) w3) := by
         rw [HX2.out, goOn_none d h2]
         refine ⟨((HO.out.alloc _).alloc _).trans hO3 (by intro i hi; simp at hi; rcases hi with rfl | rfl; exact .inl (by simp); exact .inr HO.out.size), rfl, C.setIfInBounds o vt, ?_, by simp⟩
         rw [hO3.block q (by simp; omega) (by simp; omega), Below.heap_alloc _ _ _ (by simp; omega), Below.heap_alloc _ _ _ hql]
         exact HQJ.out
        clear hO3 HC HX2 HO HQJ
        go_wp2
        go_ret
        exact HP.out
      · have HC := hide (numbers_ok hB2 hf (by have := hBj.size; omega) hR2 hvj hI2 h1)
        have HX2 := hide hX
        have HO := hide hO
        have HOWN := hide hown
        have HQJ := hide hqj
        have HRJ := hide hRj
        clear hX hO hRj hvj hown hqj hB2 hR2 hI2 h1
        go_wp2_with fail
        refine HC.out.mono ?_
        rintro e w3 ⟨rfl, hO3, hx3, v3, hR3, hs3⟩
        have hx3 : w3.heap[wr.heap.size]? = some (.cells #[.int .i64 xa, .int .i64 xb, .int .i64 xc] 140 (0, 0)) := hx3
        obtain ⟨ao, c, rfl⟩ := owns_len HOWN.out
        have hown3 : w3.ownsRow w.heap.size 140 3 (.slice ao j c) j (txCells d) := owns_off (owns_below HOWN.out (((Below.refl _ wr).alloc (Nat.le_refl _) _).alloc (by simp) _) (Nat.le_refl _)) hO3 (fun k hk e => by
         simp at hk
         rcases hk with rfl | rfl
         · exact owns_ne HOWN.out HRJ.out (by decide) e
         · have := (HOWN.out.lt _ e).2; omega)
        have hq3 : w3.heap[q]? = some (.cells (C.setIfInBounds o (.slice ao j c)) t (0, 0)) := by
         rw [hO3.block q (by simp; omega) (by simp; omega), Below.heap_alloc _ _ _ (by simp; omega), Below.heap_alloc _ _ _ hql]
         exact HQJ.out
        have hO3' : Off [f, q] w w3 := ((HO.out.alloc _).alloc _).trans hO3 (by intro i hi; simp at hi; rcases hi with rfl | rfl; exact .inl (by simp); exact .inr HO.out.size)
        have hX3 : wr.heap.size < w3.heap.size := lt_of_heap hx3
        have hnx : (Value.slice ao j c).ownBlock ≠ some wr.heap.size := fun e => by have := (HOWN.out.lt _ e).2; omega
        have hol : o < C.size := (Array.getElem?_eq_some_iff.1 hC).1
        have hws : w.heap.size ≤ w3.heap.size := hO3'.size
        have hqx : q ≠ wr.heap.size := by omega
        generalize wr.heap.size = X at *
        have kq : w3.cell? ⟨q, o, none⟩ = some (.slice ao j c) := by rw [cell_row hq3]; simp [hol]
        have fq : w3.frozen? ⟨q, o, none⟩ = false := frozen_row hq3
        have x0 : w3.cell? ⟨X, 0, none⟩ = some (.int .i64 xa) := by rw [cell_row hx3]; rfl
        have x1 : w3.cell? ⟨X, 1, none⟩ = some (.int .i64 xb) := by rw [cell_row hx3]; rfl
        have x2 : w3.cell? ⟨X, 2, none⟩ = some (.int .i64 xc) := by rw [cell_row hx3]; rfl
        have hnq : (Value.slice ao j c).ownBlock ≠ some q := owns_ne hown3 hq3 ht
        clear HC HQJ HOWN
        have HO3 := hide hO3'
        have HR3 := hide hR3
        have HS3 := hide hs3
        have HOWN3 := hide hown3
        have HQ3 := hide hq3
        have H2 := hide h2
        have HD := hide hd
        have HLJ := hide hlj
        have rd : w3.drew.rangeAt X 0 [.int .i64 xa, .int .i64 xb, .int .i64 xc] := fun i v hv => by rw [Nat.zero_add, cell_row (w := w3.drew) (C := #[.int .i64 xa, .int .i64 xb, .int .i64 xc]) hx3]; simpa using hv
        have kd : w3.drew.cell? ⟨q, o, none⟩ = some (.slice ao j c) := kq
        have kd6 : (w3.drew.alloc (.cells #[.int .i64 xa, .int .i64 xb, .int .i64 xc] 140)).cell? ⟨q, o, none⟩ = some (.slice ao j c) := by
         rw [World.cell?_alloc_lt _ _ _ (by exact lt_of_heap hq3)]; exact kq
        have L3 : ∀ W : World, W.cell? ⟨q, o, none⟩ = some (.slice ao j c) → (do pure (Next.value (← Instr.loadAt 66 (.pointer (some ⟨q, o, none⟩)))) : Sem Next).run Tryz.prog W = .ok (.value (.slice ao j c)) W := fun W hW => by
         rw [Sem.run_bind, run_load66 W q o _ hW]; rfl
        have L4 : ∀ W : World, W.rangeAt X 0 [.int .i64 xa, .int .i64 xb, .int .i64 xc] → (do pure (Next.value (← Instr.loadAt 140 (.pointer (some ⟨X, 0, none⟩)))) : Sem Next).run Tryz.prog W = .ok (.value (.agg #[.int .i64 xa, .int .i64 xb, .int .i64 xc])) W := fun W hW => by
         rw [Sem.run_bind, run_loadAt_mid W X 0 140 _ _ hW Tryz.underlying140 rfl (by kernel_rfl)]; rfl
        have L5 : ∀ W : World, (do pure (Next.value (← Instr.buildSlice 66 1 #[(0, .agg #[.int .i64 xa, .int .i64 xb, .int .i64 xc])])) : Sem Next).run Tryz.prog W = .ok (.value (.slice (some ⟨W.heap.size, 0, none⟩) 1 1)) (W.alloc (.cells #[.int .i64 xa, .int .i64 xb, .int .i64 xc] 140)) := fun W => by
         rw [Sem.run_bind, Tryz.built66 xa xb xc W]; rfl
        have HW5 : Hid (Below w3.heap.size w3 (w3.drew.alloc (.cells #[.int .i64 xa, .int .i64 xb, .int .i64 xc] 140))) := ((Below.refl _ w3).drew).alloc (Nat.le_refl _) _
        have HOWN5 : Hid ((w3.drew.alloc (.cells #[.int .i64 xa, .int .i64 xb, .int .i64 xc] 140)).ownsRow w.heap.size 140 3 (.slice ao j c) j (txCells d)) := owns_below hown3 HW5.out (Nat.le_refl _)
        have HROW : Hid (Row (w3.drew.alloc (.cells #[.int .i64 xa, .int .i64 xb, .int .i64 xc] 140)) (.slice (some ⟨w3.heap.size, 0, none⟩) 1 1) 1 [.int .i64 xa, .int .i64 xb, .int .i64 xc]) :=
         ⟨_, _, rfl, Nat.le_refl _, by simp only [maxLen]; omega, fun _ => ⟨w3.heap.size, 0, rfl, fun i v hv => by
          have e : (w3.drew.alloc (.cells #[.int .i64 xa, .int .i64 xb, .int .i64 xc] 140)).heap[w3.heap.size]? = some (.cells #[.int .i64 xa, .int .i64 xb, .int .i64 xc] 140) := heap_alloc_new w3.drew _
          rw [Nat.zero_add, cell_row e]; simpa using hv⟩⟩
        have HN1 : Hid ((j + 1) * 24 ≤ 140737488355328) := by show _ ≤ _; omega
        have HN2 : Hid (j + 1 ≤ 140737488355328) := by show _ ≤ _; omega
        have HBS : Hid (w.heap.size ≤ (w3.drew.alloc (.cells #[.int .i64 xa, .int .i64 xb, .int .i64 xc] 140)).heap.size) := by show _ ≤ _; simp; omega
        have HAFT : Hid (∀ v' w', w'.ownsRow w.heap.size 140 3 v' (j + 1) (txCells d ++ [.int .i64 xa, .int .i64 xb, .int .i64 xc]) → (w3.drew.alloc (.cells #[.int .i64 xa, .int .i64 xb, .int .i64 xc] 140)).grownBy w' (Value.slice ao j c).ownBlock →
         w'.cell? ⟨q, o, none⟩ = some (.slice ao j c) ∧ w'.frozen? ⟨q, o, none⟩ = false ∧ Off [f, q] w (w'.setCell ⟨q, o, none⟩ v') ∧ (w'.setCell ⟨q, o, none⟩ v').heap[f]? = some (.cells #[v3] 179 (0, 0)) ∧ (w'.setCell ⟨q, o, none⟩ v').ownsRow w.heap.size 140 3 v' (j + 1) (txCells (d ++ [(xa, xb, xc)])) ∧ (w'.setCell ⟨q, o, none⟩ v').heap[q]? = some (.cells (C.setIfInBounds o v') t (0, 0))) := fun v' w' ho hg => by
         have b5 : ∀ k, k < w3.heap.size → (Value.slice ao j c).ownBlock ≠ some k → w'.heap[k]? = w3.heap[k]? := fun k hk hne => by
          rw [hg.block k (by simp; omega) (fun e => hne e.symm), Below.heap_alloc _ _ _ (by exact hk)]; rfl
         have hq5 : w'.heap[q]? = some (.cells (C.setIfInBounds o (.slice ao j c)) t (0, 0)) := (b5 q (lt_of_heap HQ3.out) hnq).trans HQ3.out
         have hf5 : w'.heap[f]? = some (.cells #[v3] 179 (0, 0)) := (b5 f (lt_of_heap HR3.out) (owns_ne HOWN3.out HR3.out (by decide))).trans HR3.out
         refine ⟨by rw [cell_row hq5]; simp [hol], frozen_row hq5, ?_, (heap_set_other hfq).trans hf5, ?_, ?_⟩
         · refine Off.setCell ?_ _ _ (.inl (by simp))
           exact ((HO3.out.drew).alloc _).grown hg (fun k hk => .inr (HOWN3.out.lt k hk).1)
         · have e : txCells (d ++ [(xa, xb, xc)]) = txCells d ++ [.int .i64 xa, .int .i64 xb, .int .i64 xc] := by simp [txCells, icell]
           rw [e]
           refine owns_stay ho (fun k hk => heap_set_other (fun e => ?_))
           have e : k = q := e
           subst e
           exact owns_ne ho hq5 ht hk
         · rw [heap_set_same _ hq5]
           simp
        clear kq fq x0 x1 x2 hx3 hO3 hs3 hR3 hown3 hq3 hO3' hnq hnx hlj hd h2
        go_wp2
        refine wp_region_held_drew (S := fun _ => True) (by kernel_rfl) trivial (fun hH => ?_)
        refine take_to 0 23 (.pointer (some ⟨q, o, none⟩)) rfl (by kernel_rfl) (by kernel_rfl) (by kernel_rfl) (fun _ _ _ h => h) rfl (by rfl) (fun w _ => by rfl) hH ?_
        simp only [Act.put, zA, zB, zC]
        refine take_to 1 24 (.pointer (some ⟨q, o, none⟩)) rfl (by kernel_rfl) (by kernel_rfl) (by kernel_rfl) (fun _ _ _ h => h) rfl (by rfl) (fun w _ => by rfl) hH ?_
        simp only [Act.put, zA, zB, zC]
        refine take_to 2 25 (.pointer (some ⟨q, o, none⟩)) rfl (by kernel_rfl) (by kernel_rfl) (by kernel_rfl) (fun _ _ _ h => h) rfl (by rfl) (fun w _ => by rfl) hH ?_
        simp only [Act.put, zA, zB, zC]
        refine wpAnyH_all (rs := [3, 4]) (by kernel_rfl) (by simp) ?_
        intro m hm
        rcases (by simpa using hm : m = 3 ∨ m = 4) with rfl | rfl
        refine op_to 26 (.slice ao j c) _ rfl rfl (by rfl) (L3 _ kd) ⟨trivial, ?_⟩
        simp only [Act.put, zA, zB, zC]
        refine step_to 4 27 (.agg #[.int .i64 xa, .int .i64 xb, .int .i64 xc]) _ rfl (by kernel_rfl) rfl (by rfl) (L4 _ rd) trivial ?_
        simp only [Act.put, zA, zB, zC]
        refine step_to 5 28 (.slice (some ⟨w3.heap.size, 0, none⟩) 1 1) (w3.drew.alloc (.cells #[.int .i64 xa, .int .i64 xb, .int .i64 xc] 140)) rfl (by kernel_rfl) rfl (by rfl) (by rw [buildSlice_op _ _ 66 1 0 (.tmp 27) rfl _ rfl]; exact L5 _) trivial ?_
        simp only [Act.put, zA, zB, zC]
        rotate_left
        refine op_to 27 (.agg #[.int .i64 xa, .int .i64 xb, .int .i64 xc]) _ rfl rfl (by rfl) (L4 _ rd) ⟨trivial, ?_⟩
        simp only [Act.put, zA, zB, zC]
        refine wpAnyH_all (rs := [3, 5]) (by kernel_rfl) (by simp) ?_
        intro m hm
        rcases (by simpa using hm : m = 3 ∨ m = 5) with rfl | rfl
        refine op_to 26 (.slice ao j c) _ rfl rfl (by rfl) (L3 _ kd) ⟨trivial, ?_⟩
        simp only [Act.put, zA, zB, zC]
        refine step_to 5 28 (.slice (some ⟨w3.heap.size, 0, none⟩) 1 1) (w3.drew.alloc (.cells #[.int .i64 xa, .int .i64 xb, .int .i64 xc] 140)) rfl (by kernel_rfl) rfl (by rfl) (by rw [buildSlice_op _ _ 66 1 0 (.tmp 27) rfl _ rfl]; exact L5 _) trivial ?_
        simp only [Act.put, zA, zB, zC]
        rotate_left
        refine op_to 28 (.slice (some ⟨w3.heap.size, 0, none⟩) 1 1) (w3.drew.alloc (.cells #[.int .i64 xa, .int .i64 xb, .int .i64 xc] 140)) rfl rfl (by rfl) (by rw [buildSlice_op _ _ 66 1 0 (.tmp 27) rfl _ rfl]; exact L5 _) ⟨trivial, ?_⟩
        simp only [Act.put, zA, zB, zC]
        refine step_to 3 26 (.slice ao j c) _ rfl (by kernel_rfl) rfl (by rfl) (L3 _ kd6) trivial ?_
        simp only [Act.put, zA, zB, zC]
        all_goals
         refine step_append_to 6 29 rfl (by kernel_rfl) rfl rfl (.tmp 26) (.tmp 28) 66 rfl w.heap.size 140 _ 3 24 Tryz.underlying66 Tryz.info140 rfl (by omega) (.slice ao j c) j (txCells d) _ 1 [.int .i64 xa, .int .i64 xb, .int .i64 xc] rfl rfl HOWN5.out HROW.out rfl (by simp [Value.oneCell']) HN1.out HN2.out HBS.out (fun v' w6 ho hg => ⟨trivial, ?_⟩)
         simp only [Act.put, zA, zB, zC]
         refine step_to 7 30 (.pointer (some ⟨q, o, none⟩)) w6 rfl (by kernel_rfl) rfl (by rfl) rfl trivial ?_
         simp only [Act.put, zA, zB, zC]
         obtain ⟨kc, kf, r1, r2, r3, r4⟩ := HAFT.out v' w6 ho hg
         obtain ⟨a6, c6, hv6⟩ := owns_len ho
         have R1 := hide r1
         have R2 := hide r2
         have R3 := hide r3
         have R4 := hide r4
         clear ho hg r1 r2 r3 r4
         subst hv6
         refine step_store_to 8 _ rfl (by kernel_rfl) rfl (by rfl) 66 (.tmp 30) (.tmp 29) rfl _ _ rfl rfl (run_store66 w6 q o _ _ _ _ kc kf) trivial ?_
         refine wpAnyH_done (by kernel_rfl) ?_ _
         clear L3 L4 L5 kd rd kd6 kc kf
         generalize w6.setCell ⟨q, o, none⟩ (.slice a6 (j + 1) c6) = w7 at *
         go_wp2
         go_roundw
         case rel =>
          exact ⟨j + 1, d ++ [(xa, xb, xc)], r1, v3, _, by omega, by go_num, by rw [List.length_append, HD.out]; rfl, by rw [HX2.out, goOn_step d H2.out]; rfl, by have := HLJ.out; have := getTx_len H2.out; omega, R1.out, R2.out, HS3.out, R3.out, R4.out⟩
         case measure => simp [intOf]; omega
    · have hjn : j = n := by omega
      subst hjn
      rw [Nat.sub_self, goOn_end] at hX
      have HP : Hid (ListEnd txCells 140 3 w0 w f q o C t (getList getTx rest) (.returned (.bool true)) wr) := by
       rw [hX]
       exact ⟨hO, rfl, ⟨vt, by rw [hd]; exact hown, hqj⟩, _, hRj, hvj⟩
      clear hX hO hRj hvj hown hqj hd
      go_wp2
      go_ret
      exact HP.out
theorem run_load67 (w : World) (q o : Nat) (cv : Value) (h : w.cell? ⟨q, o, none⟩ = some cv) : (Instr.loadAt 67 (.pointer (some ⟨q, o, none⟩))).run Tryz.prog w = .ok cv w := by
 have hu := Tryz.underlying67
 simp [go_sem, h]
theorem run_store67 (w : World) (q o : Nat) (u : Value) (ao : Option Addr) (m c : Nat) (h : w.cell? ⟨q, o, none⟩ = some u) (hf : w.frozen? ⟨q, o, none⟩ = false) :
 (Instr.storeAt 67 (.pointer (some ⟨q, o, none⟩)) (.slice ao m c)).run Tryz.prog w = .ok () (w.setCell ⟨q, o, none⟩ (.slice ao m c)) := by
 simp [go_sem, h, hf]
theorem Tryz.built67 (a b : Int) (w : World) : (Instr.buildSlice 67 1 #[(0, .agg #[.int .i64 a, .int .i64 b])]).run Tryz.prog w = .ok (.slice (some ⟨w.heap.size, 0, none⟩) 1 1) (w.alloc (.cells #[.int .i64 a, .int .i64 b] 142)) := by kernel_rfl

set_option maxHeartbeats 2000000 in
theorem dirty_any {w0 w : World} {f q o : Nat} {v : Value} {C : Array Value} {t : TypeId} {rest : List UInt8} (hB : Below w0.heap.size w0 w) (hf : w0.heap.size ≤ f) (hq0 : w0.heap.size ≤ q) (hfq : f ≠ q) (hR : w.heap[f]? = some (.cells #[v] 179 (0, 0))) (hv : Sl w0 v rest)
 (hq : w.heap[q]? = some (.cells C t (0, 0))) (hC : C[o]? = some (.slice none 0 0)) (ht : t ≠ 142) (hlen : rest.length ≤ 1000000000000) :
 Calls Tryz.prog 129 #[.pointer (some ⟨f, 0, none⟩), .pointer (some ⟨q, o, none⟩)] w fun e w' => ListEnd dtCells 142 2 w0 w f q o C t (getList getDt rest) e w' := by
 cases hg : getNum rest with
 | none =>
   have HX : Hid (getList getDt rest = none) := by show _ = _; simp [getList, hg]
   have HC := hide (number_no hB hf hR hv hg)
   have HQ := hide hq
   clear hg hv hR hB hq
   go_enter Tryz.func129, Tryz.ntmps129
   go_wp2_with fail
   refine HC.out.mono ?_
   rintro e w1 ⟨rfl, rfl⟩
   go_wp2
   go_loopw [14] (fun i wr => i = .int .i64 0 ∧ wr = w1) (fun i _ => 0)
   case atStart => exact ⟨rfl, rfl⟩
   case round =>
    obtain ⟨rfl, rfl⟩ := hrel
    go_wp2
    go_ret
    rw [HX.out]
    exact ⟨Off.refl _ _, rfl, _, HQ.out, rfl⟩
 | some x =>
   obtain ⟨n0, r0⟩ := x
   have hnl := getNum_len hg
   obtain ⟨n, rfl⟩ : ∃ n : Nat, n0 = (n : Int) := ⟨n0.toNat, by omega⟩
   have hn62 : (n : Int) ≤ 4611686018427387904 := hnl.2.2.1
   have HX : Hid (getList getDt rest = goOn [] (getMany getDt n r0)) := by show _ = _; rw [goOn_nil]; simp [getList, hg]
   have HC := hide (number_ok hB hf hR hv hg)
   have HB := hide hB
   have HQ := hide hq
   have HR := hide hR
   have HL : Hid (16 * 0 + r0.length ≤ 1000000000000) := by show _ ≤ _; omega
   have hqs := lt_of_heap hq
   clear hg hv hR hB hq hnl hlen
   go_enter Tryz.func129, Tryz.ntmps129
   go_wp2_with fail
   refine HC.out.mono ?_
   rintro e w1 ⟨v1, rfl, rfl, hs1⟩
   have hO1 : Off [f, q] w (w.setCell ⟨f, 0, none⟩ v1) := (Off.refl _ _).setCell _ _ (.inl (by simp))
   have hR1 := heap_set_same (o := 0) v1 HR.out
   have hQ1 : (w.setCell ⟨f, 0, none⟩ v1).heap[q]? = some (.cells C t (0, 0)) := (heap_set_other (fun e => hfq e.symm)).trans HQ.out
   generalize w.setCell ⟨f, 0, none⟩ v1 = w1 at *
   go_wp2
   go_loopw [14] (fun i wr => ∃ (j : Nat) (d : List (Int × Int)) (rj : List UInt8) (vj vt : Value), j ≤ n ∧ i = .int .i64 j ∧ d.length = j ∧ getList getDt rest = goOn d (getMany getDt (n - j) rj) ∧ 16 * j + rj.length ≤ 1000000000000 ∧ Off [f, q] w wr ∧ wr.heap[f]? = some (.cells #[vj] 179 (0, 0)) ∧ Sl w0 vj rj ∧ wr.ownsRow w.heap.size 142 2 vt j (dtCells d) ∧ wr.heap[q]? = some (.cells (C.setIfInBounds o vt) t (0, 0))) (fun i _ => n - (intOf i).toNat)
   case atStart => exact ⟨0, [], r0, v1, .slice none 0 0, by omega, rfl, rfl, HX.out, HL.out, hO1, hR1, hs1, World.ownsRow_nil _ _ _ _, by rw [set_same hC]; exact hQ1⟩
   case round =>
    clear hO1 hR1 hQ1 hs1
    obtain ⟨j, d, rj, vj, vt, hj, rfl, hd, hX, hlj, hO, hRj, hvj, hown, hqj⟩ := hrel
    by_cases hlt : j < n
    · have hBj : Below w0.heap.size w0 wr := HB.out.trans (hO.below HB.out.size (fun i hi => by simp at hi; rcases hi with rfl | rfl <;> assumption))
      rw [show n - j = (n - j - 1) + 1 by omega] at hX
      have hfl := lt_of_heap hRj
      have hql := lt_of_heap hqj
      -- the world in which the numbers are read
      have hB2 : Below w0.heap.size w0 ((wr.alloc (.cells #[.int .i64 0, .int .i64 0] 142)).alloc (.cells #[.pointer (some ⟨wr.heap.size, 0, none⟩), .pointer (some ⟨wr.heap.size, 1, none⟩)] 159)) := (hBj.alloc hBj.size _).alloc (by have := hBj.size; simp; omega) _
      have hR2 : ((wr.alloc (.cells #[.int .i64 0, .int .i64 0] 142)).alloc (.cells #[.pointer (some ⟨wr.heap.size, 0, none⟩), .pointer (some ⟨wr.heap.size, 1, none⟩)] 159)).heap[f]? = some (.cells #[vj] 179 (0, 0)) := by
       rw [Below.heap_alloc _ _ _ (by simp; omega), Below.heap_alloc _ _ _ hfl]; exact hRj
      have hI2 : Into ((wr.alloc (.cells #[.int .i64 0, .int .i64 0] 142)).alloc (.cells #[.pointer (some ⟨wr.heap.size, 0, none⟩), .pointer (some ⟨wr.heap.size, 1, none⟩)] 159)) f wr.heap.size (wr.heap.size + 1) 0 2 #[.int .i64 0, .int .i64 0] 142 :=
       ⟨by rw [Below.heap_alloc _ _ _ (by simp)]; exact heap_alloc_new _ _, ⟨159, by
        have := heap_alloc_new (wr.alloc (.cells #[.int .i64 0, .int .i64 0] 142)) (.cells #[.pointer (some ⟨wr.heap.size, 0, none⟩), .pointer (some ⟨wr.heap.size, 1, none⟩)] 159)
        rw [show (wr.alloc (.cells #[.int .i64 0, .int .i64 0] 142)).heap.size = wr.heap.size + 1 by simp] at this
        exact this⟩, by omega, by omega, by omega, by simp, by omega⟩
      rcases getDt_cases rj with ⟨h1, h2⟩ | ⟨xa, xb, r1, h1, h2⟩
      · have HC := hide (numbers_no hB2 hf (by have := hBj.size; omega) hR2 hvj hI2 h1)
        have HX2 := hide hX
        have HO := hide hO
        have HQJ := hide hqj
        clear hX hO hRj hvj hown hqj hB2 hR2 hI2 h1
        go_wp2_with fail
        refine HC.out.mono ?_
        rintro e w3 ⟨rfl, hO3, _⟩
        have HP : Hid (ListEnd dtCells 142 2 w0 w f q o C t (getList getDt rest) (.returned (.bool false)) w3) := by
         rw [HX2.out, goOn_none d h2]
         refine ⟨((HO.out.alloc _).alloc _).trans hO3 (by intro i hi; simp at hi; rcases hi with rfl | rfl; exact .inl (by simp); exact .inr HO.out.size), rfl, C.setIfInBounds o vt, ?_, by simp⟩
         rw [hO3.block q (by simp; omega) (by simp; omega), Below.heap_alloc _ _ _ (by simp; omega), Below.heap_alloc _ _ _ hql]
         exact HQJ.out
        clear hO3 HC HX2 HO HQJ
        go_wp2
        go_ret
        exact HP.out
      · have HC := hide (numbers_ok hB2 hf (by have := hBj.size; omega) hR2 hvj hI2 h1)
        have HX2 := hide hX
        have HO := hide hO
        have HOWN := hide hown
        have HQJ := hide hqj
        have HRJ := hide hRj
        clear hX hO hRj hvj hown hqj hB2 hR2 hI2 h1
        go_wp2_with fail
        refine HC.out.mono ?_
        rintro e w3 ⟨rfl, hO3, hx3, v3, hR3, hs3⟩
        have hx3 : w3.heap[wr.heap.size]? = some (.cells #[.int .i64 xa, .int .i64 xb] 142 (0, 0)) := hx3
        obtain ⟨ao, c, rfl⟩ := owns_len HOWN.out
        have hown3 : w3.ownsRow w.heap.size 142 2 (.slice ao j c) j (dtCells d) := owns_off (owns_below HOWN.out (((Below.refl _ wr).alloc (Nat.le_refl _) _).alloc (by simp) _) (Nat.le_refl _)) hO3 (fun k hk e => by
         simp at hk
         rcases hk with rfl | rfl
         · exact owns_ne HOWN.out HRJ.out (by decide) e
         · have := (HOWN.out.lt _ e).2; omega)
        have hq3 : w3.heap[q]? = some (.cells (C.setIfInBounds o (.slice ao j c)) t (0, 0)) := by
         rw [hO3.block q (by simp; omega) (by simp; omega), Below.heap_alloc _ _ _ (by simp; omega), Below.heap_alloc _ _ _ hql]
         exact HQJ.out
        have hO3' : Off [f, q] w w3 := ((HO.out.alloc _).alloc _).trans hO3 (by intro i hi; simp at hi; rcases hi with rfl | rfl; exact .inl (by simp); exact .inr HO.out.size)
        have hX3 : wr.heap.size < w3.heap.size := lt_of_heap hx3
        have hnx : (Value.slice ao j c).ownBlock ≠ some wr.heap.size := fun e => by have := (HOWN.out.lt _ e).2; omega
        have hol : o < C.size := (Array.getElem?_eq_some_iff.1 hC).1
        have hws : w.heap.size ≤ w3.heap.size := hO3'.size
        have hqx : q ≠ wr.heap.size := by omega
        generalize wr.heap.size = X at *
        have kq : w3.cell? ⟨q, o, none⟩ = some (.slice ao j c) := by rw [cell_row hq3]; simp [hol]
        have fq : w3.frozen? ⟨q, o, none⟩ = false := frozen_row hq3
        have x0 : w3.cell? ⟨X, 0, none⟩ = some (.int .i64 xa) := by rw [cell_row hx3]; rfl
        have x1 : w3.cell? ⟨X, 1, none⟩ = some (.int .i64 xb) := by rw [cell_row hx3]; rfl
        have hnq : (Value.slice ao j c).ownBlock ≠ some q := owns_ne hown3 hq3 ht
        clear HC HQJ HOWN
        have HO3 := hide hO3'
        have HR3 := hide hR3
        have HS3 := hide hs3
        have HOWN3 := hide hown3
        have HQ3 := hide hq3
        have H2 := hide h2
        have HD := hide hd
        have HLJ := hide hlj
        have rd : w3.drew.rangeAt X 0 [.int .i64 xa, .int .i64 xb] := fun i v hv => by rw [Nat.zero_add, cell_row (w := w3.drew) (C := #[.int .i64 xa, .int .i64 xb]) hx3]; simpa using hv
        have kd : w3.drew.cell? ⟨q, o, none⟩ = some (.slice ao j c) := kq
        have kd6 : (w3.drew.alloc (.cells #[.int .i64 xa, .int .i64 xb] 142)).cell? ⟨q, o, none⟩ = some (.slice ao j c) := by
         rw [World.cell?_alloc_lt _ _ _ (by exact lt_of_heap hq3)]; exact kq
        have L3 : ∀ W : World, W.cell? ⟨q, o, none⟩ = some (.slice ao j c) → (do pure (Next.value (← Instr.loadAt 67 (.pointer (some ⟨q, o, none⟩)))) : Sem Next).run Tryz.prog W = .ok (.value (.slice ao j c)) W := fun W hW => by
         rw [Sem.run_bind, run_load67 W q o _ hW]; rfl
        have L4 : ∀ W : World, W.rangeAt X 0 [.int .i64 xa, .int .i64 xb] → (do pure (Next.value (← Instr.loadAt 142 (.pointer (some ⟨X, 0, none⟩)))) : Sem Next).run Tryz.prog W = .ok (.value (.agg #[.int .i64 xa, .int .i64 xb])) W := fun W hW => by
         rw [Sem.run_bind, run_loadAt_mid W X 0 142 _ _ hW Tryz.underlying142 rfl (by kernel_rfl)]; rfl
        have L5 : ∀ W : World, (do pure (Next.value (← Instr.buildSlice 67 1 #[(0, .agg #[.int .i64 xa, .int .i64 xb])])) : Sem Next).run Tryz.prog W = .ok (.value (.slice (some ⟨W.heap.size, 0, none⟩) 1 1)) (W.alloc (.cells #[.int .i64 xa, .int .i64 xb] 142)) := fun W => by
         rw [Sem.run_bind, Tryz.built67 xa xb W]; rfl
        have HW5 : Hid (Below w3.heap.size w3 (w3.drew.alloc (.cells #[.int .i64 xa, .int .i64 xb] 142))) := ((Below.refl _ w3).drew).alloc (Nat.le_refl _) _
        have HOWN5 : Hid ((w3.drew.alloc (.cells #[.int .i64 xa, .int .i64 xb] 142)).ownsRow w.heap.size 142 2 (.slice ao j c) j (dtCells d)) := owns_below hown3 HW5.out (Nat.le_refl _)
        have HROW : Hid (Row (w3.drew.alloc (.cells #[.int .i64 xa, .int .i64 xb] 142)) (.slice (some ⟨w3.heap.size, 0, none⟩) 1 1) 1 [.int .i64 xa, .int .i64 xb]) :=
         ⟨_, _, rfl, Nat.le_refl _, by simp only [maxLen]; omega, fun _ => ⟨w3.heap.size, 0, rfl, fun i v hv => by
          have e : (w3.drew.alloc (.cells #[.int .i64 xa, .int .i64 xb] 142)).heap[w3.heap.size]? = some (.cells #[.int .i64 xa, .int .i64 xb] 142) := heap_alloc_new w3.drew _
          rw [Nat.zero_add, cell_row e]; simpa using hv⟩⟩
        have HN1 : Hid ((j + 1) * 16 ≤ 140737488355328) := by show _ ≤ _; omega
        have HN2 : Hid (j + 1 ≤ 140737488355328) := by show _ ≤ _; omega
        have HBS : Hid (w.heap.size ≤ (w3.drew.alloc (.cells #[.int .i64 xa, .int .i64 xb] 142)).heap.size) := by show _ ≤ _; simp; omega
        have HAFT : Hid (∀ v' w', w'.ownsRow w.heap.size 142 2 v' (j + 1) (dtCells d ++ [.int .i64 xa, .int .i64 xb]) → (w3.drew.alloc (.cells #[.int .i64 xa, .int .i64 xb] 142)).grownBy w' (Value.slice ao j c).ownBlock →
         w'.cell? ⟨q, o, none⟩ = some (.slice ao j c) ∧ w'.frozen? ⟨q, o, none⟩ = false ∧ Off [f, q] w (w'.setCell ⟨q, o, none⟩ v') ∧ (w'.setCell ⟨q, o, none⟩ v').heap[f]? = some (.cells #[v3] 179 (0, 0)) ∧ (w'.setCell ⟨q, o, none⟩ v').ownsRow w.heap.size 142 2 v' (j + 1) (dtCells (d ++ [(xa, xb)])) ∧ (w'.setCell ⟨q, o, none⟩ v').heap[q]? = some (.cells (C.setIfInBounds o v') t (0, 0))) := fun v' w' ho hg => by
         have b5 : ∀ k, k < w3.heap.size → (Value.slice ao j c).ownBlock ≠ some k → w'.heap[k]? = w3.heap[k]? := fun k hk hne => by
          rw [hg.block k (by simp; omega) (fun e => hne e.symm), Below.heap_alloc _ _ _ (by exact hk)]; rfl
         have hq5 : w'.heap[q]? = some (.cells (C.setIfInBounds o (.slice ao j c)) t (0, 0)) := (b5 q (lt_of_heap HQ3.out) hnq).trans HQ3.out
         have hf5 : w'.heap[f]? = some (.cells #[v3] 179 (0, 0)) := (b5 f (lt_of_heap HR3.out) (owns_ne HOWN3.out HR3.out (by decide))).trans HR3.out
         refine ⟨by rw [cell_row hq5]; simp [hol], frozen_row hq5, ?_, (heap_set_other hfq).trans hf5, ?_, ?_⟩
         · refine Off.setCell ?_ _ _ (.inl (by simp))
           exact ((HO3.out.drew).alloc _).grown hg (fun k hk => .inr (HOWN3.out.lt k hk).1)
         · have e : dtCells (d ++ [(xa, xb)]) = dtCells d ++ [.int .i64 xa, .int .i64 xb] := by simp [dtCells, icell]
           rw [e]
           refine owns_stay ho (fun k hk => heap_set_other (fun e => ?_))
           have e : k = q := e
           subst e
           exact owns_ne ho hq5 ht hk
         · rw [heap_set_same _ hq5]
           simp
        clear kq fq x0 x1 hx3 hO3 hs3 hR3 hown3 hq3 hO3' hnq hnx hlj hd h2
        go_wp2
        refine wp_region_held_drew (S := fun _ => True) (by kernel_rfl) trivial (fun hH => ?_)
        refine take_to 0 22 (.pointer (some ⟨q, o, none⟩)) rfl (by kernel_rfl) (by kernel_rfl) (by kernel_rfl) (fun _ _ _ h => h) rfl (by rfl) (fun w _ => by rfl) hH ?_
        simp only [Act.put, zA, zB, zC]
        refine take_to 1 23 (.pointer (some ⟨q, o, none⟩)) rfl (by kernel_rfl) (by kernel_rfl) (by kernel_rfl) (fun _ _ _ h => h) rfl (by rfl) (fun w _ => by rfl) hH ?_
        simp only [Act.put, zA, zB, zC]
        refine take_to 2 24 (.pointer (some ⟨q, o, none⟩)) rfl (by kernel_rfl) (by kernel_rfl) (by kernel_rfl) (fun _ _ _ h => h) rfl (by rfl) (fun w _ => by rfl) hH ?_
        simp only [Act.put, zA, zB, zC]
        refine wpAnyH_all (rs := [3, 4]) (by kernel_rfl) (by simp) ?_
        intro m hm
        rcases (by simpa using hm : m = 3 ∨ m = 4) with rfl | rfl
        refine op_to 25 (.slice ao j c) _ rfl rfl (by rfl) (L3 _ kd) ⟨trivial, ?_⟩
        simp only [Act.put, zA, zB, zC]
        refine step_to 4 26 (.agg #[.int .i64 xa, .int .i64 xb]) _ rfl (by kernel_rfl) rfl (by rfl) (L4 _ rd) trivial ?_
        simp only [Act.put, zA, zB, zC]
        refine step_to 5 27 (.slice (some ⟨w3.heap.size, 0, none⟩) 1 1) (w3.drew.alloc (.cells #[.int .i64 xa, .int .i64 xb] 142)) rfl (by kernel_rfl) rfl (by rfl) (by rw [buildSlice_op _ _ 67 1 0 (.tmp 26) rfl _ rfl]; exact L5 _) trivial ?_
        simp only [Act.put, zA, zB, zC]
        rotate_left
        refine op_to 26 (.agg #[.int .i64 xa, .int .i64 xb]) _ rfl rfl (by rfl) (L4 _ rd) ⟨trivial, ?_⟩
        simp only [Act.put, zA, zB, zC]
        refine wpAnyH_all (rs := [3, 5]) (by kernel_rfl) (by simp) ?_
        intro m hm
        rcases (by simpa using hm : m = 3 ∨ m = 5) with rfl | rfl
        refine op_to 25 (.slice ao j c) _ rfl rfl (by rfl) (L3 _ kd) ⟨trivial, ?_⟩
        simp only [Act.put, zA, zB, zC]
        refine step_to 5 27 (.slice (some ⟨w3.heap.size, 0, none⟩) 1 1) (w3.drew.alloc (.cells #[.int .i64 xa, .int .i64 xb] 142)) rfl (by kernel_rfl) rfl (by rfl) (by rw [buildSlice_op _ _ 67 1 0 (.tmp 26) rfl _ rfl]; exact L5 _) trivial ?_
        simp only [Act.put, zA, zB, zC]
        rotate_left
        refine op_to 27 (.slice (some ⟨w3.heap.size, 0, none⟩) 1 1) (w3.drew.alloc (.cells #[.int .i64 xa, .int .i64 xb] 142)) rfl rfl (by rfl) (by rw [buildSlice_op _ _ 67 1 0 (.tmp 26) rfl _ rfl]; exact L5 _) ⟨trivial, ?_⟩
        simp only [Act.put, zA, zB, zC]
        refine step_to 3 25 (.slice ao j c) _ rfl (by kernel_rfl) rfl (by rfl) (L3 _ kd6) trivial ?_
        simp only [Act.put, zA, zB, zC]
        all_goals
         refine step_append_to 6 28 rfl (by kernel_rfl) rfl rfl (.tmp 25) (.tmp 27) 67 rfl w.heap.size 142 _ 2 16 Tryz.underlying67 Tryz.info142 rfl (by omega) (.slice ao j c) j (dtCells d) _ 1 [.int .i64 xa, .int .i64 xb] rfl rfl HOWN5.out HROW.out rfl (by simp [Value.oneCell']) HN1.out HN2.out HBS.out (fun v' w6 ho hg => ⟨trivial, ?_⟩)
         simp only [Act.put, zA, zB, zC]
         refine step_to 7 29 (.pointer (some ⟨q, o, none⟩)) w6 rfl (by kernel_rfl) rfl (by rfl) rfl trivial ?_
         simp only [Act.put, zA, zB, zC]
         obtain ⟨kc, kf, r1, r2, r3, r4⟩ := HAFT.out v' w6 ho hg
         obtain ⟨a6, c6, hv6⟩ := owns_len ho
         have R1 := hide r1
         have R2 := hide r2
         have R3 := hide r3
         have R4 := hide r4
         clear ho hg r1 r2 r3 r4
         subst hv6
         refine step_store_to 8 _ rfl (by kernel_rfl) rfl (by rfl) 67 (.tmp 29) (.tmp 28) rfl _ _ rfl rfl (run_store67 w6 q o _ _ _ _ kc kf) trivial ?_
         refine wpAnyH_done (by kernel_rfl) ?_ _
         clear L3 L4 L5 kd rd kd6 kc kf
         generalize w6.setCell ⟨q, o, none⟩ (.slice a6 (j + 1) c6) = w7 at *
         go_wp2
         go_roundw
         case rel =>
          exact ⟨j + 1, d ++ [(xa, xb)], r1, v3, _, by omega, by go_num, by rw [List.length_append, HD.out]; rfl, by rw [HX2.out, goOn_step d H2.out]; rfl, by have := HLJ.out; have := getDt_len H2.out; omega, R1.out, R2.out, HS3.out, R3.out, R4.out⟩
         case measure => simp [intOf]; omega
    · have hjn : j = n := by omega
      subst hjn
      rw [Nat.sub_self, goOn_end] at hX
      have HP : Hid (ListEnd dtCells 142 2 w0 w f q o C t (getList getDt rest) (.returned (.bool true)) wr) := by
       rw [hX]
       exact ⟨hO, rfl, ⟨vt, by rw [hd]; exact hown, hqj⟩, _, hRj, hvj⟩
      clear hX hO hRj hvj hown hqj hd
      go_wp2
      go_ret
      exact HP.out
end Go.Proofs.YteeembildppgmaaGreat.Enc
