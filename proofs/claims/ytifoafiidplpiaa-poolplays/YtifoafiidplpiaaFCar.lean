/- Small methods of a file; 'carry': the steps of a write. -/
import Derived.Test.YtifoafiidplpiaaFFetch
namespace Go.Proofs.Ytifoafiidplpiaa
open Go.RowKit
set_option linter.unusedVariables false
set_option linter.unusedSimpArgs false

/-! ### A scope whose jumps go forward -/
/-- As Q; by a goto to label l: J l. -/
def Exit.jumps (J : Nat → Act → World → Prop) (Q : Exit → Act → World → Prop) : Exit → Act → World → Prop
  | .goto l, a, w => J l a w
  | e, a, w => Q e a w
theorem Exit.jumps_ret {J : Nat → Act → World → Prop} {Q : Exit → Act → World → Prop} {a : Act} {w : World} : Exit.jumps J Q .ret a w = Q .ret a w := rfl
/-- n jumps at most, each walked from its own frame. -/
def fwd (P : Program) (c : Code) (Q : Exit → Act → World → Prop) : Nat → Nat → Act → World → Prop
  | 0, _, _, _ => False
  | n + 1, l, a, w => ∃ rest, findLabel c l = some rest ∧ rest.wp P (Exit.jumps (fwd P c Q n) Q) a w
theorem wp_scope_fwd {P : Program} {Q : Exit → Act → World → Prop} {a : Act} {w : World} {c : Code} (n : Nat) (first : c.wp P (Exit.jumps (fwd P c Q n) Q) a w) : (Code.scope c).wp P Q a w := by
  intro b k cs
  have key : ∀ n l a w, fwd P c Q n l a w → ∃ rest, findLabel c l = some rest ∧ ∃ e a' w', Q e a' w' ∧ Arrives P (lone (b.at a (.code rest :: .inScope c :: k)) cs w) b k cs e a' w' := by
    intro n
    induction n with
    | zero => intro l a w h; exact h.elim
    | succ n ih =>
      rintro l a w ⟨rest, hf, hw⟩
      refine ⟨rest, hf, ?_⟩
      obtain ⟨e, a₁, w₁, hq, harr⟩ := hw b (.inScope c :: k) cs
      cases e with
      | normal => exact ⟨.normal, a₁, w₁, hq, Steps.trans harr (.one step_inScope)⟩
      | exit id => exact ⟨.exit id, a₁, w₁, hq, fun k' hk => harr k' (by simp [exitTo, hk])⟩
      | goto l' =>
        obtain ⟨rest', hf', e₂, a₂, w₂, hq₂, harr₂⟩ := ih l' a₁ w₁ hq
        have hg : gotoIn l' (.inScope c :: k) = some (.code rest' :: .inScope c :: k) := by simp [gotoIn, hf']
        exact ⟨e₂, a₂, w₂, hq₂, .of_steps (harr _ hg) harr₂⟩
      | ret => exact ⟨_, a₁, w₁, hq, harr⟩
      | panic ch => exact ⟨_, a₁, w₁, hq, harr⟩
      | outgrown => exact ⟨_, a₁, w₁, hq, harr⟩
  obtain ⟨e, a₁, w₁, hq, harr⟩ := first b (.inScope c :: k) cs
  cases e with
  | normal => exact ⟨.normal, a₁, w₁, hq, .head step_scope (Steps.trans harr (.one step_inScope))⟩
  | exit id => exact ⟨.exit id, a₁, w₁, hq, fun k' hk => .head step_scope (harr k' (by simp [exitTo, hk]))⟩
  | goto l' =>
    obtain ⟨rest', hf', e₂, a₂, w₂, hq₂, harr₂⟩ := key n l' a₁ w₁ hq
    have hg : gotoIn l' (.inScope c :: k) = some (.code rest' :: .inScope c :: k) := by simp [gotoIn, hf']
    exact ⟨e₂, a₂, w₂, hq₂, .of_steps (.head step_scope (harr _ hg)) harr₂⟩
  | ret => exact ⟨_, a₁, w₁, hq, .of_steps (.one step_scope) harr⟩
  | panic ch => exact ⟨_, a₁, w₁, hq, .of_steps (.one step_scope) harr⟩
  | outgrown => exact ⟨_, a₁, w₁, hq, .of_steps (.one step_scope) harr⟩

section
variable {w : World} {q p fr n : Nat} {failed : Bool}
theorem pages_any (h : FileAt w q p fr n failed) : Calls Try.prog 34 #[.pointer (some ⟨q, 0, none⟩)] w fun e w' => e = .returned (.int .i64 (n : Int)) ∧ w' = w := by
  have k2 := h.c2
  go_enter Try.func34, Try.ntmps34
  go_wp2
  go_ret
  exact ⟨rfl, rfl⟩
theorem journal_any (h : FileAt w q p fr n failed) (hfr : fr ≤ 1099511627776) : Calls Try.prog 47 #[.pointer (some ⟨q, 0, none⟩)] w fun e w' => e = .returned (.int .i64 ((fr + 1 : Nat) : Int)) ∧ w' = w := by
  have k1 := h.c1
  go_enter Try.func47, Try.ntmps47
  go_wp2
  go_ret
  exact ⟨by congr 1, rfl⟩
theorem has_in (i : Nat) (h : FileAt w q p fr n failed) (hi : i < n) : Calls Try.prog 31 #[.pointer (some ⟨q, 0, none⟩), .int .i64 (i : Int)] w fun e w' => e = .returned (.bool true) ∧ w' = w := by
  have k2 := h.c2
  go_enter Try.func31, Try.ntmps31
  go_wp2
  go_ret
  exact ⟨rfl, rfl⟩
theorem has_out (i : Int) (h : FileAt w q p fr n failed) (hi : i < 0 ∨ (n : Int) ≤ i) : Calls Try.prog 31 #[.pointer (some ⟨q, 0, none⟩), .int .i64 i] w fun e w' => e = .returned (.bool false) ∧ w' = w := by
  have k2 := h.c2
  by_cases h0 : i < 0
  · go_enter Try.func31, Try.ntmps31
    go_wp2
    go_ret
    exact ⟨rfl, rfl⟩
  · have hd : decide (i < (n : Int)) = false := by simp; omega
    go_enter Try.func31, Try.ntmps31
    go_wp2
    go_ret
    exact ⟨rfl, rfl⟩
theorem place_any (i : Nat) (h : FileAt w q p fr n failed) (hfr : fr ≤ 1099511627776) (hi : i ≤ 1099511627776) : Calls Try.prog 33 #[.pointer (some ⟨q, 0, none⟩), .int .i64 (i : Int)] w fun e w' => e = .returned (.int .i64 ((fr + 5 + 4 * i : Nat) : Int)) ∧ w' = w := by
  have k1 := h.c1
  have hw1 : IntKind.i64.wrap ((fr : Int) + 5) = (fr : Int) + 5 := by rw [IntKind.wrap_i64]; omega
  have hw2 : IntKind.i64.wrap ((i : Int) * 4) = (i : Int) * 4 := by rw [IntKind.wrap_i64]; omega
  have hw3 : IntKind.i64.wrap ((fr : Int) + 5 + (i : Int) * 4) = (fr : Int) + 5 + (i : Int) * 4 := by rw [IntKind.wrap_i64]; omega
  go_enter Try.func33, Try.ntmps33
  go_wp2
  go_ret
  refine ⟨?_, rfl⟩
  show Ending.returned (Value.int .i64 ((fr : Int) + 5 + (i : Int) * 4)) = _
  congr 2
  omega
end

/-! ### The steps as data -/
def onOk (x : Int × Dv) (f : Dv → Int × Dv) : Int × Dv := if x.1 ≠ 0 then x else f x.2
theorem onOk_ok {x : Int} {E : Dv} {f : Dv → Int × Dv} (h : x = 0) : onOk (x, E) f = f E := by rw [onOk, if_neg (by simpa using h)]
theorem onOk_no {x : Int} {E : Dv} {f : Dv → Int × Dv} (h : x ≠ 0) : onOk (x, E) f = (x, E) := by rw [onOk, if_pos h]
/-- From the page on. -/
def Dv.carP (D : Dv) (fr i : Nat) (b : List UInt8) : Int × Dv := onOk (D.lay (fr + 5 + 4 * i) (secsOf 4 b)) fun E => E.lay fr [headOf 0]
/-- From the head on. -/
def Dv.carH (D : Dv) (fr i : Nat) (b : List UInt8) : Int × Dv := onOk (D.lay fr [headOf (i + 1)]) fun E => E.carP fr i b
/-- All of a write. -/
def Dv.carJ (D : Dv) (fr i : Nat) (b : List UInt8) : Int × Dv := onOk (D.lay (fr + 1) (secsOf 4 b)) fun E => E.carH fr i b

theorem lay_W : ∀ (ss : List (List UInt8)) (D : Dv) (i : Nat), (D.lay i ss).2.W.length ≤ D.W.length + ss.length
  | [], D, i => by
    unfold Dv.lay Dv.sync
    split
    · simp
    · split
      · simp
      · simp [Dv.synced]
  | s :: r, D, i => by
    unfold Dv.lay
    have h1 := write_W D i s
    have h2 := lay_W r (D.write i s).2 (i + 1)
    split
    · rw [List.length_cons]; omega
    · rw [List.length_cons]; omega
theorem secs_one (v : Nat) : secsOf 1 (headOf v) = [headOf v] := by
  rw [secsOf, secsOf, List.take_of_length_le (by rw [length_headOf]; omega)]
theorem length_secsOf : ∀ (n : Nat) (b : List UInt8), (secsOf n b).length = n
  | 0, _ => rfl
  | n + 1, b => by rw [secsOf, List.length_cons, length_secsOf n]

/-- A head laid, wherever its bytes lie. -/
theorem layHead_any {w : World} {q p fr n : Nat} {failed : Bool} {fp : List Nat} {D : Dv} (g v : Nat) (hf : FileAt w q p fr n failed) (hD : DevAt w p fp D) (hq : q ∉ fp)
    (hs : w.heap[g]? = some (.cells (secCells (headOf v)).toArray 5 (0, 0))) (hg : g ∉ fp) (hW : D.W.length ≤ 900000) (hi : fr ≤ 1099511627776) :
    Calls Try.prog 55 #[.pointer (some ⟨q, 0, none⟩), .int .i64 (fr : Int), .slice (some ⟨g, 0, none⟩) 128 128] w fun e w' => e = .returned (.int .i64 (D.lay fr [headOf v]).1) ∧
      ∃ fp', DevAt w' p fp' (D.lay fr [headOf v]).2 ∧ Off fp w w' ∧ ∀ k ∈ fp', k ∈ fp ∨ w.heap.size ≤ k := by
  have := lay_any (m := 1) fr g 128 (headOf v) (length_headOf v) (by omega) (by omega) hf hD hq (SrcAt.block hs) hg hW hi
  rw [secs_one] at this
  exact this
theorem layPage_any {w : World} {q p fr n : Nat} {failed : Bool} {fp : List Nat} {D : Dv} (i g c : Nat) (bs : List UInt8) (hl : bs.length = 512) (hc : 512 ≤ c) (hf : FileAt w q p fr n failed) (hD : DevAt w p fp D) (hq : q ∉ fp)
    (hs : SrcAt w g 0 bs) (hg : g ∉ fp) (hW : D.W.length ≤ 900000) (hi : i ≤ 1099511627776) :
    Calls Try.prog 55 #[.pointer (some ⟨q, 0, none⟩), .int .i64 (i : Int), .slice (some ⟨g, 0, none⟩) 512 c] w fun e w' => e = .returned (.int .i64 (D.lay i (secsOf 4 bs)).1) ∧
      ∃ fp', DevAt w' p fp' (D.lay i (secsOf 4 bs)).2 ∧ Off fp w w' ∧ ∀ k ∈ fp', k ∈ fp ∨ w.heap.size ≤ k :=
  lay_any (m := 4) i g c bs hl (by omega) hc hf hD hq hs hg hW hi

/-- All that a write needs, on its way from the world w. -/
structure CarAt (w wr : World) (q p fr n : Nat) (failed : Bool) (g : Nat) (bs : List UInt8) (fp fq : List Nat) (E : Dv) : Prop where
  fl : FileAt wr q p fr n failed
  dev : DevAt wr p fq E
  src : SrcAt wr g 0 bs
  off : Off fp w wr
  fresh : ∀ k ∈ fq, k ∈ fp ∨ w.heap.size ≤ k
  nq : q ∉ fq
  ng : g ∉ fq
theorem CarAt.next {w wr w' : World} {q p fr n : Nat} {failed : Bool} {g : Nat} {bs : List UInt8} {fp fq fq' : List Nat} {E E' : Dv} (h : CarAt w wr q p fr n failed g bs fp fq E) (hD : DevAt w' p fq' E') (hO : Off fq wr w') (hF : ∀ k ∈ fq', k ∈ fq ∨ wr.heap.size ≤ k) : CarAt w w' q p fr n failed g bs fp fq' E' :=
  ⟨h.fl.off hO h.nq, hD, h.src.off hO h.ng, h.off.trans hO (fun k hk => h.fresh k hk), fresh_off h.fresh h.off hF, fresh_not h.nq h.fl.lt hF, fresh_not h.ng h.src.1 hF⟩
theorem CarAt.belowW {w wr w' : World} {q p fr n : Nat} {failed : Bool} {g : Nat} {bs : List UInt8} {fp fq : List Nat} {E : Dv} (h : CarAt w wr q p fr n failed g bs fp fq E) (hb : Below wr.heap.size wr w') : CarAt w w' q p fr n failed g bs fp fq E :=
  h.next (h.dev.below hb) (Off.of_below hb fq) (fun k hk => .inl hk)

set_option maxHeartbeats 2000000 in
set_option maxRecDepth 100000 in
theorem carry_page {w : World} {q p fr n : Nat} {failed : Bool} {fp : List Nat} {D : Dv} (i g c : Nat) (bs : List UInt8) (hl : bs.length = 512) (hc : 512 ≤ c) (h : CarAt w w q p fr n failed g bs fp fp D) (hW : D.W.length ≤ 800000) (hfr : fr ≤ 549755813888) (hi : i ≤ 34359738368) :
    Calls Try.prog 48 #[.pointer (some ⟨q, 0, none⟩), .int .i64 1, .int .i64 (i : Int), .slice (some ⟨g, 0, none⟩) 512 c] w fun e w' => e = .returned (.int .i64 (D.carP fr i bs).1) ∧
      ∃ fp', CarAt w w' q p fr n failed g bs fp fp' (D.carP fr i bs).2 := by
  obtain ⟨R, hR⟩ : ∃ R, D.carP fr i bs = R := ⟨_, rfl⟩
  rw [hR]
  have HR := hide hR
  clear hR
  have HC0 := hide h
  clear h
  have HPL := hide (place_any i HC0.out.fl (by omega) (by omega))
  have HLA := hide (layPage_any (fr + 5 + 4 * i) g c bs hl hc HC0.out.fl HC0.out.dev HC0.out.nq HC0.out.src HC0.out.ng (by omega) (by omega))
  have hLW := lay_W (secsOf 4 bs) D (fr + 5 + 4 * i)
  rw [length_secsOf] at hLW
  unfold Dv.carP at HR
  obtain ⟨⟨x, E⟩, hX⟩ : ∃ X, D.lay (fr + 5 + 4 * i) (secsOf 4 bs) = X := ⟨_, rfl⟩
  rw [hX] at HR HLA hLW
  have hLW : E.W.length ≤ D.W.length + 4 := hLW
  clear hX
  by_cases hx : x = 0
  · subst hx
    rw [onOk_ok rfl] at HR
    go_enter Try.func48, Try.ntmps48
    go_wp2
    refine wp_scope_fwd 4 ?_
    go_wp2
    go_step3
    refine ⟨_, rfl, ?_⟩
    go_wp2_with (first | (go_at_call 33; refine HPL.out.mono ?_; rintro e w' ⟨rfl, hw⟩; have hw := hw.symm; subst hw) | (go_at_call 55; refine HLA.out.mono ?_; rintro e w4 ⟨rfl, fp4, hD4, hO4, hF4⟩))
    go_step3
    refine ⟨_, rfl, ?_⟩
    have HC4 := hide (HC0.out.next hD4 hO4 hF4)
    clear hD4 hO4 hF4 HLA HPL
    have k1 := HC4.out.fl.c1
    have HHD := hide (fun d => headOf_any 0 (w4.drewN d) (by omega))
    have HK1 := hide (fun (W : World) (hb : Below w4.heap.size w4 W) => (HC4.out.belowW hb).fl.c1)
    have HLY := hide (fun (W : World) (hb : Below w4.heap.size w4 W) (hh : W.heap[w4.heap.size]? = some (.cells (secCells (headOf 0)).toArray 5 (0, 0))) =>
      layHead_any w4.heap.size 0 (HC4.out.belowW hb).fl (HC4.out.belowW hb).dev HC4.out.nq hh (fun hm => by obtain ⟨_, _, _, x⟩ := HC4.out.dev; have := x.lim _ hm; omega) (by omega) (by omega))
    go_wp2
    go_region_held (fun w' => w'.cell? ⟨q, 1, none⟩ = some (.int .i64 (fr : Int))) (simp [*])
      (first
        | (go_at_call 56; refine (HHD.out 1).mono ?_; rintro e w5 ⟨rfl, hh5, hb5'⟩; have hb5 : Below w4.heap.size w4 w5 := ⟨hb5'.os, hb5'.tape, hb5'.output, hb5'.size, hb5'.block⟩; have k15 := HK1.out w5 hb5)
        | (go_at_call 55; refine (HLY.out w5 hb5 hh5).mono ?_; rintro e w6 ⟨rfl, fp6, hD6, hO6, hF6⟩; have hC6 := (HC4.out.belowW hb5).next hD6 hO6 hF6; have k16 := hC6.fl.c1))
    all_goals rw [HR.out] at hC6
    all_goals go_wp2
    all_goals rw [Exit.jumps_ret]
    all_goals go_ret
    all_goals rw [HR.out]
    all_goals exact ⟨rfl, _, hC6⟩
  · rw [onOk_no hx] at HR
    have hxb : (x == 0) = false := by simpa using hx
    go_enter Try.func48, Try.ntmps48
    go_wp2
    refine wp_scope_fwd 4 ?_
    go_wp2
    go_step3
    refine ⟨_, rfl, ?_⟩
    go_wp2_with (first | (go_at_call 33; refine HPL.out.mono ?_; rintro e w' ⟨rfl, hw⟩; have hw := hw.symm; subst hw) | (go_at_call 55; refine HLA.out.mono ?_; rintro e w4 ⟨rfl, fp4, hD4, hO4, hF4⟩))
    rw [Exit.jumps_ret]
    go_ret
    rw [← HR.out]
    exact ⟨rfl, _, HC0.out.next hD4 hO4 hF4⟩
set_option maxHeartbeats 2000000 in
set_option maxRecDepth 100000 in
theorem carry_journal {w : World} {q p fr n : Nat} {failed : Bool} {fp : List Nat} {D : Dv} (i g c : Nat) (bs : List UInt8) (hl : bs.length = 512) (hc : 512 ≤ c) (h : CarAt w w q p fr n failed g bs fp fp D) (hW : D.W.length ≤ 800000) (hfr : fr ≤ 549755813888) (hi : i ≤ 34359738368) :
    Calls Try.prog 48 #[.pointer (some ⟨q, 0, none⟩), .int .i64 0, .int .i64 (i : Int), .slice (some ⟨g, 0, none⟩) 512 c] w fun e w' => e = .returned (.int .i64 (D.carJ fr i bs).1) ∧
      ∃ fp', CarAt w w' q p fr n failed g bs fp fp' (D.carJ fr i bs).2 := by
  obtain ⟨R, hR⟩ : ∃ R, D.carJ fr i bs = R := ⟨_, rfl⟩
  rw [hR]
  have HR := hide hR
  clear hR
  have HC0 := hide h
  have HJO := hide (journal_any h.fl (by omega))
  have HLA := hide (layPage_any (fr + 1) g c bs hl hc h.fl h.dev h.nq h.src h.ng (by omega) (by omega))
  have hLW := lay_W (secsOf 4 bs) D (fr + 1)
  rw [length_secsOf] at hLW
  unfold Dv.carJ at HR
  obtain ⟨⟨x, E⟩, hX⟩ : ∃ X, D.lay (fr + 1) (secsOf 4 bs) = X := ⟨_, rfl⟩
  rw [hX] at HR HLA hLW
  have hLW : E.W.length ≤ D.W.length + 4 := hLW
  clear hX h
  by_cases hx : x = 0
  · subst hx
    rw [onOk_ok rfl] at HR
    go_enter Try.func48, Try.ntmps48
    go_wp2
    refine wp_scope_fwd 4 ?_
    go_wp2
    go_step3
    refine ⟨_, rfl, ?_⟩
    go_wp2_with (first | (go_at_call 47; refine HJO.out.mono ?_; rintro e w' ⟨rfl, hw⟩; have hw := hw.symm; subst hw) | (go_at_call 55; refine HLA.out.mono ?_; rintro e w2 ⟨rfl, fp2, hD2, hO2, hF2⟩))
    go_step3
    refine ⟨_, rfl, ?_⟩
    have HC2 := hide (HC0.out.next hD2 hO2 hF2)
    clear hD2 hO2 hF2 HLA HJO
    have k1 := HC2.out.fl.c1
    have hwu1 : IntKind.u64.wrap (i : Int) = (i : Int) := by rw [wrapU]; omega
    have hwu2 : IntKind.u64.wrap ((i : Int) + 1) = (i : Int) + 1 := by rw [wrapU]; omega
    have HHD := hide (fun d => headOf_any (i + 1) (w2.drewN d) (by omega))
    rw [show ((i + 1 : Nat) : Int) = (i : Int) + 1 by omega] at HHD
    have HK1 := hide (fun (W : World) (hb : Below w2.heap.size w2 W) => (HC2.out.belowW hb).fl.c1)
    have HLY := hide (fun (W : World) (hb : Below w2.heap.size w2 W) (hh : W.heap[w2.heap.size]? = some (.cells (secCells (headOf (i + 1))).toArray 5 (0, 0))) =>
      layHead_any w2.heap.size (i + 1) (HC2.out.belowW hb).fl (HC2.out.belowW hb).dev HC2.out.nq hh (fun hm => by obtain ⟨_, _, _, x⟩ := HC2.out.dev; have := x.lim _ hm; omega) (by omega) (by omega))
    have hLW2 := lay_W [headOf (i + 1)] E fr
    unfold Dv.carH at HR
    obtain ⟨⟨y, E2⟩, hY⟩ : ∃ Y, E.lay fr [headOf (i + 1)] = Y := ⟨_, rfl⟩
    rw [hY] at HR HLY hLW2
    have hLW2 : E2.W.length ≤ E.W.length + 1 := hLW2
    clear hY
    by_cases hy : y = 0
    · subst hy
      rw [onOk_ok rfl] at HR
      go_wp2
      go_region_held (fun w' => w'.cell? ⟨q, 1, none⟩ = some (.int .i64 (fr : Int))) (simp [*])
        (first
          | (go_at_call 56; refine (HHD.out 1).mono ?_; rintro e w5 ⟨rfl, hh5, hb5'⟩; have hb5 : Below w2.heap.size w2 w5 := ⟨hb5'.os, hb5'.tape, hb5'.output, hb5'.size, hb5'.block⟩; have k15 := HK1.out w5 hb5)
          | (go_at_call 55; refine (HLY.out w5 hb5 hh5).mono ?_; rintro e w6 ⟨rfl, fp6, hD6, hO6, hF6⟩; have hC6 := (HC2.out.belowW hb5).next hD6 hO6 hF6; have k16 := hC6.fl.c1))
      all_goals
        have HC6 := hide hC6
        clear hC6 hD6 hO6 hF6 hb5 hb5' hh5 HHD HK1 HLY k1 k15 hwu1 hwu2
        have hLW1 := hLW
        clear hLW
        go_wp2
        go_step3
        refine ⟨_, rfl, ?_⟩
        have HPL := hide (place_any i HC6.out.fl (by omega) (by omega))
        have HLA := hide (layPage_any (fr + 5 + 4 * i) g c bs hl hc HC6.out.fl HC6.out.dev HC6.out.nq HC6.out.src HC6.out.ng (by omega) (by omega))
        have hLW := lay_W (secsOf 4 bs) E2 (fr + 5 + 4 * i)
        rw [length_secsOf] at hLW
        unfold Dv.carP at HR
        obtain ⟨⟨x, E3⟩, hX⟩ : ∃ X, E2.lay (fr + 5 + 4 * i) (secsOf 4 bs) = X := ⟨_, rfl⟩
        rw [hX] at HR HLA hLW
        have hLW : E3.W.length ≤ E2.W.length + 4 := hLW
        clear hX
        by_cases hx : x = 0
        · subst hx
          rw [onOk_ok rfl] at HR
          go_wp2_with (first | (go_at_call 33; refine HPL.out.mono ?_; rintro e w' ⟨rfl, hw⟩; have hw := hw.symm; subst hw) | (go_at_call 55; refine HLA.out.mono ?_; rintro e w4 ⟨rfl, fp4, hD4, hO4, hF4⟩))
          go_step3
          refine ⟨_, rfl, ?_⟩
          have HC4 := hide (HC6.out.next hD4 hO4 hF4)
          clear hD4 hO4 hF4 HLA HPL
          have k1 := HC4.out.fl.c1
          have HHD := hide (fun d => headOf_any 0 (w4.drewN d) (by omega))
          have HK1 := hide (fun (W : World) (hb : Below w4.heap.size w4 W) => (HC4.out.belowW hb).fl.c1)
          have HLY := hide (fun (W : World) (hb : Below w4.heap.size w4 W) (hh : W.heap[w4.heap.size]? = some (.cells (secCells (headOf 0)).toArray 5 (0, 0))) =>
            layHead_any w4.heap.size 0 (HC4.out.belowW hb).fl (HC4.out.belowW hb).dev HC4.out.nq hh (fun hm => by obtain ⟨_, _, _, x⟩ := HC4.out.dev; have := x.lim _ hm; omega) (by omega) (by omega))
          go_wp2
          go_region_held (fun w' => w'.cell? ⟨q, 1, none⟩ = some (.int .i64 (fr : Int))) (simp [*])
            (first
              | (go_at_call 56; refine (HHD.out 1).mono ?_; rintro e w7 ⟨rfl, hh7, hb7'⟩; have hb7 : Below w4.heap.size w4 w7 := ⟨hb7'.os, hb7'.tape, hb7'.output, hb7'.size, hb7'.block⟩; have k17 := HK1.out w7 hb7)
              | (go_at_call 55; refine (HLY.out w7 hb7 hh7).mono ?_; rintro e w8 ⟨rfl, fp8, hD8, hO8, hF8⟩; have hC8 := (HC4.out.belowW hb7).next hD8 hO8 hF8; have k16 := hC8.fl.c1))
          all_goals rw [HR.out] at hC8
          all_goals go_wp2
          all_goals rw [Exit.jumps_ret]
          all_goals go_ret
          all_goals rw [HR.out]
          all_goals exact ⟨rfl, _, hC8⟩
        · rw [onOk_no hx] at HR
          have hxb : (x == 0) = false := by simpa using hx
          go_wp2_with (first | (go_at_call 33; refine HPL.out.mono ?_; rintro e w' ⟨rfl, hw⟩; have hw := hw.symm; subst hw) | (go_at_call 55; refine HLA.out.mono ?_; rintro e w4 ⟨rfl, fp4, hD4, hO4, hF4⟩))
          rw [Exit.jumps_ret]
          go_ret
          rw [← HR.out]
          exact ⟨rfl, _, HC6.out.next hD4 hO4 hF4⟩
    · rw [onOk_no hy] at HR
      have hyb : (y == 0) = false := by simpa using hy
      go_wp2
      go_region_held (fun w' => w'.cell? ⟨q, 1, none⟩ = some (.int .i64 (fr : Int))) (simp [*])
        (first
          | (go_at_call 56; refine (HHD.out 1).mono ?_; rintro e w5 ⟨rfl, hh5, hb5'⟩; have hb5 : Below w2.heap.size w2 w5 := ⟨hb5'.os, hb5'.tape, hb5'.output, hb5'.size, hb5'.block⟩; have k15 := HK1.out w5 hb5)
          | (go_at_call 55; refine (HLY.out w5 hb5 hh5).mono ?_; rintro e w6 ⟨rfl, fp6, hD6, hO6, hF6⟩; have hC6 := (HC2.out.belowW hb5).next hD6 hO6 hF6; have k16 := hC6.fl.c1))
      all_goals go_wp2
      all_goals rw [Exit.jumps_ret]
      all_goals go_ret
      all_goals rw [← HR.out]
      all_goals exact ⟨rfl, _, hC6⟩
  · rw [onOk_no hx] at HR
    have hxb : (x == 0) = false := by simpa using hx
    go_enter Try.func48, Try.ntmps48
    go_wp2
    refine wp_scope_fwd 4 ?_
    go_wp2
    go_step3
    refine ⟨_, rfl, ?_⟩
    go_wp2_with (first | (go_at_call 47; refine HJO.out.mono ?_; rintro e w' ⟨rfl, hw⟩; have hw := hw.symm; subst hw) | (go_at_call 55; refine HLA.out.mono ?_; rintro e w2 ⟨rfl, fp2, hD2, hO2, hF2⟩))
    rw [Exit.jumps_ret]
    go_ret
    rw [← HR.out]
    exact ⟨rfl, _, HC0.out.next hD2 hO2 hF2⟩
end Go.Proofs.Ytifoafiidplpiaa
