/- free: a frame for another page. -/
import Derived.Test.YtifoafiidplpiaaPWrite
namespace Go.Proofs.Ytifoafiidplpiaa
open Go.RowKit
set_option linter.unusedVariables false
set_option linter.unusedSimpArgs false

def Pl.empty {σ : Type} (S : Pl σ) : Option Nat := S.fs.findIdx? (fun f => !f.held)
def Pl.next {σ : Type} (S : Pl σ) : Nat := (S.hand + 1) % S.fs.length
def Fm.unasked (f : Fm) : Fm := { f with asked := false }
/-- The hand goes round. -/
def Pl.clock {σ : Type} : Nat → Pl σ → Nat × Pl σ
  | 0, S => (S.hand, S)
  | k + 1, S => match S.fs[S.hand]? with
    | some f => if f.asked = true then Pl.clock k { S with fs := S.fs.set S.hand f.unasked, hand := S.next } else (S.hand, { S with hand := S.next })
    | none => (S.hand, S)
def Pl.pick {σ : Type} (S : Pl σ) : Nat × Pl σ := match S.empty with
  | some i => (i, S)
  | none => S.clock 65
def Pl.nAsk {σ : Type} (S : Pl σ) : Nat := S.fs.countP (·.asked)
theorem countP_rangeN {α : Type} (pr : α → Bool) (Q : Nat → Bool) (l : List α) (h : ∀ (i : Nat) x, l[i]? = some x → Q i = pr x) : ∀ k, k ≤ l.length → (List.range k).countP Q = (l.take k).countP pr
  | 0, _ => by simp
  | k + 1, hk => by
    have hx := h k l[k] (List.getElem?_eq_getElem (by omega))
    rw [List.range_succ, List.countP_append, countP_rangeN pr Q l h k (by omega), List.take_succ_eq_append_getElem (by omega), List.countP_append]
    simp [List.countP_cons, hx]
theorem countP_range {α : Type} (pr : α → Bool) (Q : Nat → Bool) (l : List α) (h : ∀ (i : Nat) x, l[i]? = some x → Q i = pr x) : (List.range l.length).countP Q = l.countP pr := by
  rw [countP_rangeN pr Q l h l.length (Nat.le_refl _), List.take_length]
def askB : Option Value → Bool
  | some (.bool b) => b
  | _ => false
def askW (w : World) (G N : Nat) : Nat := (List.range N).countP (fun i => askB (w.cell? ⟨G, i * 7 + 3, none⟩))
theorem op_add3 (ρ : Operand → Value) (o : Oper) (x y : Operand) (tt : TypeId) (ho : o.op = .binOp .add 3 x y tt) (n m : Int) (hx : ρ x = .int .i64 n) (hy : ρ y = .int .i64 m) (b : Int) (hb : IntKind.i64.wrap (n + m) = b) {w : World} : (execOp ρ o).run Try.prog w = .ok (.value (.int .i64 b)) w := by
  have hu := Try.underlying3
  unfold execOp
  simp only [ho, hx, hy]
  simp [go_sem, hu, hb]
theorem op_rem3 (ρ : Operand → Value) (o : Oper) (x y : Operand) (tt : TypeId) (ho : o.op = .binOp .rem 3 x y tt) (n m : Int) (hx : ρ x = .int .i64 n) (hy : ρ y = .int .i64 m) (b : Int) (hm : 0 < m) (hb : n.tmod m = b) {w : World} : (execOp ρ o).run Try.prog w = .ok (.value (.int .i64 b)) w := by
  have hu := Try.underlying3
  have h0 : (m == 0) = false := beq_eq_false_iff_ne.2 (by omega)
  have h0' : m ≠ 0 := by omega
  unfold execOp
  simp only [ho, hx, hy]
  simp [go_sem, hu, hb, h0, h0']
theorem run_index75 (w : World) (lb n cap i : Nat) (h : i < n) : (Instr.indexAt 75 (.slice (some ⟨lb, 0, none⟩) n cap) (.int .i64 (i : Int))).run Try.prog w = .ok (.pointer (some ⟨lb, i * 7, none⟩)) w := by
  have hu := Try.underlying75
  have hs := Try.sizeOf82
  simp [go_sem, hu, hs, h]
section
variable {Φ : Force} {w0 w w' : World} {P G q p n : Nat} {xs bl ff : List Nat} {vs : List Value} {S : Pl Φ.σ} {D D' : Dv}
theorem PoolIs.askW (h : PoolIs Φ w0 w P G q p n xs bl ff vs S D) : askW w G S.fs.length = S.nAsk := by
  unfold Ytifoafiidplpiaa.askW Pl.nAsk
  refine countP_range _ _ _ (fun i f hi => ?_)
  obtain ⟨v, _, _, _, _, _, _, d3, _⟩ := h.cells i f hi
  rw [d3]
  rfl
theorem PoolIs.nAsk (h : PoolIs Φ w0 w P G q p n xs bl ff vs S D) : S.nAsk < 65 := by
  have := h.f2
  have h2 := List.countP_le_length (p := fun f : Fm => f.asked) (l := S.fs)
  unfold Pl.nAsk
  omega
theorem PoolIs.mark (h : PoolIs Φ w0 w P G q p n xs bl ff vs S D) (i : Nat) (f : Fm) (hf : S.fs[i]? = some f) (b : Bool) : PoolIs Φ w0 (w.setCell ⟨G, i * 7 + 3, none⟩ (.bool b)) P G q p n xs bl ff vs { S with fs := S.fs.set i { f with asked := b } } D := by
  obtain ⟨v, hv, hB, hi, _⟩ := h.cells i f hf
  obtain ⟨hlt, rfl⟩ := List.getElem?_eq_some_iff.1 hf
  obtain ⟨hvl, rfl⟩ := List.getElem?_eq_some_iff.1 hv
  have hO : Off [G] w (w.setCell ⟨G, i * 7 + 3, none⟩ (.bool b)) := (Off.refl _ _).setCell _ _ (by simp)
  have := h.setG i { S.fs[i] with asked := b } vs[i] hi hO (by
    rw [heap_setCell_same _ G _ _ _ _ h.row, List.setIfInBounds_toArray, rowF_set1 S.fs vs h.vlen i hi 3 (by omega) (.bool b) { S.fs[i] with asked := b } vs[i] rfl]) (hB.stay rfl (Nat.le_refl _) (fun k hk => ⟨hk, rfl⟩)) (h.lsn S.fs[i] (List.getElem_mem _))
  rw [List.set_getElem_self] at this
  exact this
theorem nAsk_unmark {σ : Type} (S : Pl σ) (i : Nat) (f : Fm) (hf : S.fs[i]? = some f) (ha : f.asked = true) (k : Nat) : ({ S with fs := S.fs.set i f.unasked, hand := k } : Pl σ).nAsk + 1 = S.nAsk := by
  obtain ⟨hlt, rfl⟩ := List.getElem?_eq_some_iff.1 hf
  have h1 : 0 < S.fs.countP (·.asked) := List.countP_pos_iff.2 ⟨_, List.getElem_mem hlt, ha⟩
  unfold Pl.nAsk
  simp only
  rw [List.countP_set hlt]
  simp [ha, Fm.unasked]
  omega
def Pl.free {Φ : Force} (S : Pl Φ.σ) : Int × Nat × Pl Φ.σ := match S.pick.2.fs[S.pick.1]? with
  | some f => ((S.pick.2.wrote f).1, S.pick.1, (S.pick.2.wrote f).2)
  | none => (0, S.pick.1, S.pick.2)
/-- Dirty frames hold pages of the file. -/
def Pl.sound {σ : Type} (S : Pl σ) (n : Nat) : Prop := ∀ f ∈ S.fs, f.dirty = true → 0 ≤ f.page ∧ f.page < (n : Int) ∧ f.bs.length = 512

set_option maxHeartbeats 2000000 in
set_option maxRecDepth 100000 in
theorem free_any (h : PoolIs Φ w0 w P G q p n xs bl ff vs S D) (hok : Φ.ok S.fo) (hpg : S.sound n) (hwr : S.wr ≤ 1000000) :
    Calls Try.prog 35 #[.pointer (some ⟨P, 0, none⟩)] w fun e w' => e = .returned (.tuple #[.pointer (if S.free.1 = 0 then some ⟨G, S.free.2.1 * 7, none⟩ else none), .int .i64 S.free.1]) ∧ PoolAt Φ w0 w' P G q p n xs S.free.2.2 ∧ Kept xs w w' := by
  have c2 := h.c2
  have hm64 := h.f2
  have H := hide h
  clear h
  cases hE : S.empty with
  | some i =>
    have hI := List.findIdx?_eq_some_iff_getElem.1 hE
    obtain ⟨hil, hip, hij⟩ := hI
    have HPK : Hid (S.pick = (i, S)) := by show _ = _; unfold Pl.pick; rw [hE]
    have HNE : Hid (∀ (j : Nat) y, j < i → S.fs[j]? = some y → y.held = true) := fun j y hj hy => by
      have := hij j hj
      obtain ⟨hjl, rfl⟩ := List.getElem?_eq_some_iff.1 hy
      simpa using this
    have hfi : S.fs[i]? = some S.fs[i] := List.getElem?_eq_getElem hil
    have hhe : S.fs[i].held = false := by simpa using hip
    generalize S.fs[i] = f at *
    have HFI := hide hfi
    have HHE := hide hhe
    clear hE hip hij hfi hhe
    go_enter Try.func35, Try.ntmps35
    go_wp2
    refine wp_scope_fwd 1 ?_
    go_wp2
    go_loopw [12] (fun i' wr => ∃ k : Nat, k ≤ i ∧ i' = .int .i64 k ∧ wr = w) (fun i' _ => i - (intOf i').toNat)
    case atStart => exact ⟨0, by omega, rfl, rfl⟩
    case round =>
      obtain ⟨k, hk, rfl, hw⟩ := hrel
      have hw2 := hw.symm
      subst hw2
      clear hw
      obtain ⟨N, hN⟩ : ∃ N, S.fs.length = N := ⟨_, rfl⟩
      by_cases hlt : k < i
      · obtain ⟨y, hf⟩ : ∃ f, S.fs[k]? = some f := ⟨_, List.getElem?_eq_getElem (by omega)⟩
        obtain ⟨v, hv, hB, _, d0, _⟩ := H.out.cells k y hf
        rw [HNE.out k y hlt hf] at d0
        clear hB hv hf
        rw [hN] at c2 hm64 hil
        have hkN : k < N := by omega
        have HN := hide hN
        clear hN
        go_wp2
        go_roundw
        case rel => exact ⟨k + 1, by omega, by go_num, by first | rfl | trivial⟩
        case measure => simp [intOf]; omega
      · have hk' : k = i := by omega
        subst hk'
        obtain ⟨v, hv, hB, _, d0, _⟩ := H.out.cells k f HFI.out
        rw [HHE.out] at d0
        clear hB hv
        rw [hN] at c2 hm64 hil
        have HN := hide hN
        clear hN
        have HFR : Hid (S.free = ((Pl.wrote S f).1, k, (Pl.wrote S f).2)) := by
          show _ = _
          unfold Pl.free
          rw [HPK.out]
          simp only [HFI.out]
        have HW := hide (write_any H.out k f HFI.out hok (hpg f (List.mem_of_getElem? HFI.out)) hwr)
        obtain ⟨⟨x, T⟩, hT⟩ : ∃ T, Pl.wrote S f = T := ⟨_, rfl⟩
        rw [hT] at HW HFR
        clear hT HPK hpg hok
        by_cases hx : x = 0
        · subst hx
          go_wp2
          go_step3
          refine ⟨_, rfl, ?_⟩
          go_wp2_with (go_at_call 30; refine HW.out.mono ?_; rintro e w3 ⟨rfl, ⟨ff3, D3, h3⟩, hK3⟩)
          rw [Exit.jumps_ret]
          go_ret2
          rw [HFR.out]
          exact ⟨rfl, h3.at, hK3⟩
        · have hxb : (x != 0) = true := by simpa using hx
          go_wp2
          go_step3
          refine ⟨_, rfl, ?_⟩
          go_wp2_with (go_at_call 30; refine HW.out.mono ?_; rintro e w3 ⟨rfl, ⟨ff3, D3, h3⟩, hK3⟩)
          rw [Exit.jumps_ret]
          go_ret2
          rw [HFR.out]
          simp only
          rw [if_neg hx]
          exact ⟨rfl, h3.at, hK3⟩
  | none =>
    have HNE : Hid (∀ (j : Nat) y, S.fs[j]? = some y → y.held = true) := fun j y hy => by
      have := List.findIdx?_eq_none_iff.1 hE y (List.mem_of_getElem? hy)
      simpa using this
    have HPK : Hid (S.pick = S.clock 65) := by show _ = _; unfold Pl.pick; rw [hE]
    clear hE
    go_enter Try.func35, Try.ntmps35
    go_wp2
    refine wp_scope_fwd 1 ?_
    go_wp2
    go_loopw [12] (fun i wr => ∃ k : Nat, k ≤ S.fs.length ∧ i = .int .i64 k ∧ wr = w) (fun i _ => S.fs.length - (intOf i).toNat)
    case atStart => exact ⟨0, by omega, rfl, rfl⟩
    case round =>
      obtain ⟨k, hk, rfl, hw⟩ := hrel
      have hw2 := hw.symm
      subst hw2
      clear hw
      by_cases hlt : k < S.fs.length
      · obtain ⟨f, hf⟩ : ∃ f, S.fs[k]? = some f := ⟨_, List.getElem?_eq_getElem hlt⟩
        obtain ⟨v, hv, hB, _, d0, _⟩ := H.out.cells k f hf
        rw [HNE.out k f hf] at d0
        clear hB hv hf
        obtain ⟨N, hN⟩ : ∃ N, S.fs.length = N := ⟨_, rfl⟩
        rw [hN] at hlt hk c2 hm64
        have HN := hide hN
        clear hN
        go_wp2
        go_roundw
        case rel => exact ⟨k + 1, by rw [HN.out]; omega, by go_num, by first | rfl | trivial⟩
        case measure => rw [HN.out]; simp [intOf]; omega
      · have hk' : k = S.fs.length := by omega
        go_wp2
        clear c2 hk hk' hlt hm64
        go_loopw [4] (fun i wx => ∃ (S1 : Pl Φ.σ) (k : Nat), PoolIs Φ w0 wx P G q p n xs bl ff vs S1 D ∧ S1.clock k = S.clock 65 ∧ S1.nAsk < k ∧ S1.fs.length = S.fs.length ∧ S1.fo = S.fo ∧ S1.wr = S.wr ∧ S1.sound n ∧ Kept xs w wx) (fun _ wx => askW wx G S.fs.length)
        case atStart => exact ⟨S, 65, H.out, rfl, H.out.nAsk, rfl, rfl, rfl, hpg, Kept.refl _ _⟩
        case round =>
          clear H HNE hpg
          obtain ⟨S1, k1, h1, hck, hnk, hlen, hfo, hwr1, hsd, hK⟩ := hrel
          have hhand := h1.hand
          have hf2 := h1.f2
          obtain ⟨f, hf⟩ : ∃ f, S1.fs[S1.hand]? = some f := ⟨_, List.getElem?_eq_getElem hhand⟩
          have c2 := h1.c2
          have c3 := h1.c3
          have fz3 := h1.fzP 3
          have H1 := hide h1
          have HF := hide hf
          have HCK := hide hck
          have HNK := hide hnk
          have HLEN := hide hlen
          have HFO := hide hfo
          have HWR := hide hwr1
          have HSD := hide hsd
          have HK := hide hK
          clear h1 hf hck hnk hlen hfo hwr1 hsd hK
          obtain ⟨N, hN⟩ : ∃ N, S1.fs.length = N := ⟨_, rfl⟩
          obtain ⟨hd, hhd'⟩ : ∃ hd, S1.hand = hd := ⟨_, rfl⟩
          rw [hN] at c2 hhand hf2
          rw [hhd'] at c3 hhand
          have hhd := hhand
          have hadd : IntKind.i64.wrap ((hd : Int) + 1) = (hd : Int) + 1 := by rw [IntKind.wrap_i64]; omega
          obtain ⟨hn, hhn⟩ : ∃ hn, (hd + 1) % N = hn := ⟨_, rfl⟩
          have hrem : ((hd : Int) + 1).tmod (N : Int) = (hn : Int) := by
            rw [Int.tmod_eq_emod_of_nonneg (by omega)]
            rw [← hhn]
            simp
          have HNX : Hid (S1.next = hn) := by show _ = _; unfold Pl.next; rw [hN, hhd', hhn]
          have HHD := hide hhd'
          have HN := hide hN
          have hNpos : (0 : Int) < (N : Int) := by omega
          clear hhn hN hhd'
          go_wp2
          refine wp_region_held_drew (S := fun w' => w'.cell? ⟨P, 2, none⟩ = some (.slice (some ⟨G, 0, none⟩) N N) ∧ w'.cell? ⟨P, 3, none⟩ = some (.int .i64 (hd : Int))) (by kernel_rfl) ⟨c2, c3⟩ (fun hH => ?_)
          refine take_to 0 27 (.pointer (some ⟨P, 0, none⟩)) rfl (by kernel_rfl) (by kernel_rfl) (by kernel_rfl) (fun _ _ _ h => h) rfl (by rfl) (fun w hw => by rfl) hH ?_
          simp only [Act.put, List.setIfInBounds_toArray, List.set_cons_zero, List.set_cons_succ]
          refine take_to 1 28 (.pointer (some ⟨P, 0, none⟩)) rfl (by kernel_rfl) (by kernel_rfl) (by kernel_rfl) (fun _ _ _ h => h) rfl (by rfl) (fun w hw => by rfl) hH ?_
          simp only [Act.put, List.setIfInBounds_toArray, List.set_cons_zero, List.set_cons_succ]
          refine take_to 2 29 (.pointer (some ⟨P, 2, none⟩)) rfl (by kernel_rfl) (by kernel_rfl) (by kernel_rfl) (fun _ _ _ h => h) rfl (by rfl) (fun w hw => by rfl) hH ?_
          simp only [Act.put, List.setIfInBounds_toArray, List.set_cons_zero, List.set_cons_succ]
          refine take_to 3 30 (.slice (some ⟨G, 0, none⟩) N N) rfl (by kernel_rfl) (by kernel_rfl) (by kernel_rfl) (fun _ _ _ h => h) rfl (by rfl) (fun w hw => op_load _ _ 75 (.tmp 29) rfl (.pointer (some ⟨P, 2, none⟩)) _ rfl (run_loadAny w P 2 75 _ Try.isAgg75 hw.1)) hH ?_
          simp only [Act.put, List.setIfInBounds_toArray, List.set_cons_zero, List.set_cons_succ]
          refine take_to 4 31 (.pointer (some ⟨P, 0, none⟩)) rfl (by kernel_rfl) (by kernel_rfl) (by kernel_rfl) (fun _ _ _ h => h) rfl (by rfl) (fun w hw => by rfl) hH ?_
          simp only [Act.put, List.setIfInBounds_toArray, List.set_cons_zero, List.set_cons_succ]
          refine take_to 5 32 (.pointer (some ⟨P, 0, none⟩)) rfl (by kernel_rfl) (by kernel_rfl) (by kernel_rfl) (fun _ _ _ h => h) rfl (by rfl) (fun w hw => by rfl) hH ?_
          simp only [Act.put, List.setIfInBounds_toArray, List.set_cons_zero, List.set_cons_succ]
          refine take_to 6 33 (.pointer (some ⟨P, 3, none⟩)) rfl (by kernel_rfl) (by kernel_rfl) (by kernel_rfl) (fun _ _ _ h => h) rfl (by rfl) (fun w hw => by rfl) hH ?_
          simp only [Act.put, List.setIfInBounds_toArray, List.set_cons_zero, List.set_cons_succ]
          refine take_to 7 34 (.int .i64 (hd : Int)) rfl (by kernel_rfl) (by kernel_rfl) (by kernel_rfl) (fun _ _ _ h => h) rfl (by rfl) (fun w hw => op_load _ _ 3 (.tmp 33) rfl (.pointer (some ⟨P, 3, none⟩)) _ rfl (run_loadAny w P 3 3 _ Try.isAgg3 hw.2)) hH ?_
          simp only [Act.put, List.setIfInBounds_toArray, List.set_cons_zero, List.set_cons_succ]
          refine take_to 8 35 (.pointer (some ⟨G, hd * 7, none⟩)) rfl (by kernel_rfl) (by kernel_rfl) (by kernel_rfl) (fun _ _ _ h => h) rfl (by rfl) (fun w hw => op_index _ _ 75 (.tmp 30) (.tmp 34) rfl _ _ _ rfl rfl (run_index75 w G _ _ _ hhd)) hH ?_
          simp only [Act.put, List.setIfInBounds_toArray, List.set_cons_zero, List.set_cons_succ]
          refine take_to 9 4 (.pointer (some ⟨G, hd * 7, none⟩)) rfl (by kernel_rfl) (by kernel_rfl) (by kernel_rfl) (fun _ _ _ h => h) rfl (by rfl) (fun w hw => by rfl) hH ?_
          simp only [Act.put, List.setIfInBounds_toArray, List.set_cons_zero, List.set_cons_succ]
          refine wpAnyH_done (by kernel_rfl) ?_ _
          go_wp2
          go_region
          have hO2 : Off [P] wr (wr.setCell ⟨P, 3, none⟩ (.int .i64 (hn : Int))) := (Off.refl _ _).setCell _ _ (by simp)
          have h2 : PoolIs Φ w0 (wr.setCell ⟨P, 3, none⟩ (.int .i64 (hn : Int))).drew.drew P G q p n xs bl ff vs { S1 with hand := hn } D :=
            (H1.out.setP hn S1.wr hO2 (by rw [heap_setCell_same _ P 3 _ _ _ H1.out.head]; rfl) (by rw [HN.out]; rw [← HNX.out]; unfold Pl.next; rw [HN.out]; exact Nat.mod_lt _ (by omega))).belowW ⟨rfl, rfl, rfl, Nat.le_refl _, fun _ _ => rfl⟩
          have HK2 : Hid (Kept xs w (wr.setCell ⟨P, 3, none⟩ (.int .i64 (hn : Int))).drew.drew) := HK.out.trans ⟨hO2.size, fun k hk => hO2.block k (H1.out.fs.lts (by simp [hk])) (fun hm => by simp at hm; exact H1.out.pb (by rw [← hm]; simp [hk]))⟩
          have HA1 : Hid (askW wr G S.fs.length = S1.nAsk) := by show _ = _; rw [← HLEN.out]; exact H1.out.askW
          clear c2 c3 fz3 hH hO2 HK H1
          generalize (wr.setCell ⟨P, 3, none⟩ (.int .i64 (hn : Int))).drew.drew = W at *
          have hf2' : ({ S1 with hand := hn } : Pl Φ.σ).fs[hd]? = some f := by rw [← HHD.out]; exact HF.out
          obtain ⟨v, hv, hB, hi, d0, d1, d2, d3, d4, d5, d6⟩ := h2.cells hd f hf2'
          have g3 := h2.fzG (hd * 7 + 3)
          have H2 := hide h2
          have HF2 := hide hf2'
          clear h2 hf2' d0 d1 d2 d4 d5 d6 hB hv
          obtain ⟨k2, rfl⟩ : ∃ k2, k1 = k2 + 1 := ⟨k1 - 1, by have := HNK.out; omega⟩
          have HST : Hid (S1.clock (k2 + 1) = if f.asked = true then Pl.clock k2 { S1 with fs := S1.fs.set hd f.unasked, hand := hn } else (hd, { S1 with hand := hn })) := by
            show _ = _
            rw [Pl.clock, HF.out]
            simp only [HNX.out, HHD.out]
          by_cases ha : f.asked = true
          · rw [ha] at d3
            have HA := hide ha
            clear ha
            go_wp2
            go_roundw
            case rel =>
              refine ⟨{ S1 with fs := S1.fs.set hd f.unasked, hand := hn }, k2, H2.out.mark hd f HF2.out false, ?_, ?_, ?_, HFO.out, HWR.out, ?_, ?_⟩
              · rw [← HCK.out, HST.out, if_pos HA.out]
              · have := nAsk_unmark S1 hd f (by rw [← HHD.out]; exact HF.out) HA.out hn
                have h3 := HNK.out
                omega
              · rw [← HLEN.out]; exact List.length_set
              · intro y hy
                rcases List.mem_or_eq_of_mem_set hy with h3 | h3
                · exact HSD.out y h3
                · rw [h3]; exact HSD.out f (List.mem_of_getElem? HF.out)
              · have hO3 : Off [G] W (W.setCell ⟨G, hd * 7 + 3, none⟩ (.bool false)) := (Off.refl _ _).setCell _ _ (by simp)
                exact HK2.out.trans ⟨hO3.size, fun k hk => hO3.block k (H2.out.fs.lts (by simp [hk])) (fun hm => by simp at hm; exact H2.out.gb (by rw [← hm]; simp [hk]))⟩
            case measure =>
              have h3 := H2.out.mark hd f HF2.out false
              have h4 := h3.askW
              have h5 := nAsk_unmark S1 hd f (by rw [← HHD.out]; exact HF.out) HA.out hn
              have h6 := HA1.out
              have h7 : ({ S1 with fs := S1.fs.set hd f.unasked, hand := hn } : Pl Φ.σ).fs.length = S.fs.length := by rw [← HLEN.out]; exact List.length_set
              have h4 : askW (W.setCell ⟨G, hd * 7 + 3, none⟩ (.bool false)) G ({ S1 with fs := S1.fs.set hd f.unasked, hand := hn } : Pl Φ.σ).fs.length = ({ S1 with fs := S1.fs.set hd f.unasked, hand := hn } : Pl Φ.σ).nAsk := h4
              rw [h7] at h4
              omega
          · have HA := hide ha
            have ha' : f.asked = false := by simpa using ha
            rw [ha'] at d3
            clear ha ha'
            have HFR : Hid (S.free = ((Pl.wrote ({ S1 with hand := hn } : Pl Φ.σ) f).1, hd, (Pl.wrote ({ S1 with hand := hn } : Pl Φ.σ) f).2)) := by
              show _ = _
              have e : S.pick = (hd, { S1 with hand := hn }) := by rw [HPK.out, ← HCK.out, HST.out, if_neg HA.out]
              unfold Pl.free
              rw [e]
              simp only [HF2.out]
            have HW := hide (write_any H2.out hd f HF2.out (by rw [HFO.out]; exact hok) (HSD.out f (List.mem_of_getElem? HF.out)) (by have := HWR.out; simp only; omega))
            obtain ⟨⟨x, T⟩, hT⟩ : ∃ T, Pl.wrote ({ S1 with hand := hn } : Pl Φ.σ) f = T := ⟨_, rfl⟩
            rw [hT] at HW HFR
            clear hT HST HCK HPK
            by_cases hx : x = 0
            · subst hx
              go_wp2
              go_step3
              refine ⟨_, rfl, ?_⟩
              go_wp2_with (go_at_call 30; refine HW.out.mono ?_; rintro e w3 ⟨rfl, ⟨ff3, D3, h3⟩, hK3⟩)
              rw [Exit.jumps_ret]
              go_ret2
              rw [HFR.out]
              exact ⟨rfl, h3.at, HK2.out.trans hK3⟩
            · have hxb : (x != 0) = true := by simpa using hx
              go_wp2
              go_step3
              refine ⟨_, rfl, ?_⟩
              go_wp2_with (go_at_call 30; refine HW.out.mono ?_; rintro e w3 ⟨rfl, ⟨ff3, D3, h3⟩, hK3⟩)
              rw [Exit.jumps_ret]
              go_ret2
              rw [HFR.out]
              simp only
              rw [if_neg hx]
              exact ⟨rfl, h3.at, HK2.out.trans hK3⟩
end
end Go.Proofs.Ytifoafiidplpiaa
