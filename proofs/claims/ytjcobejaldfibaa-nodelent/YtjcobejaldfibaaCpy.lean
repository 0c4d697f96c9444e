/- bytes.Compare, bytes.Clone, slices.Clone; copiedTexts, copied, matched. -/
import Derived.Test.YtjcobejaldfibaaTxt
import Derived.Laws.Externs
namespace Go.Proofs.Ytjcobejaldfibaa
open Go.RowKit
set_option linter.unusedVariables false
set_option linter.unusedSimpArgs false

theorem Try.info28 : (Try.prog.info? 28).map (fun i => (i.zero, i.size, i.bytes)) = some (some (.slice none 0 0), 1, 24) := by kernel_rfl
/-! ### Compare -/
theorem run_loadBytes : ∀ (bs : List UInt8) (w : World) (g o : Nat) (s : ByteArray), (∀ j u, (secCells bs)[j]? = some u → w.cell? ⟨g, o + j, none⟩ = some u) →
    (Extern.Bytes.loadBytes ⟨g, o, none⟩ bs.length s).run Try.prog w = .ok ⟨s.data ++ bs.toArray⟩ w
  | [], w, g, o, s, h => by simp [Extern.Bytes.loadBytes]
  | b :: r, w, g, o, s, h => by
    have h0 : w.cell? ⟨g, o, none⟩ = some (.int .u8 (b.toNat : Int)) := h 0 (.int .u8 (b.toNat : Int)) rfl
    have ih := run_loadBytes r w g (o + 1) (s.push b) (fun j u hu => by
      rw [Nat.add_assoc, Nat.add_comm 1 j]
      exact h (j + 1) u (by simpa [secCells] using hu))
    have hl : (load ⟨g, o, none⟩).run Try.prog w = .ok (.int .u8 (b.toNat : Int)) w := by simp [h0]
    have e : ((b.toNat : Int).toNat.toUInt8) = b := by simp
    rw [List.length_cons, Extern.Bytes.loadBytes]
    simp only [Sem.run_bind, hl, Result.andThen_ok, e, Addr.add_mid]
    rw [ih]
    simp [ByteArray.push]
theorem bytesOf_sl {w : World} {v : Value} {bs : List UInt8} (h : Sl w v bs) : (Extern.Bytes.bytesOf v).run Try.prog w = .ok (strOf bs) w := by
  obtain ⟨ao, c, rfl, h1, h2, h3⟩ := h
  cases ao with
  | none =>
    have hb : bs = [] := by
      refine Classical.byContradiction fun hne => ?_
      obtain ⟨g, o, ea, _⟩ := h3 (fun h0 => hne (List.map_eq_nil_iff.1 h0))
      cases ea
    subst hb
    rfl
  | some a =>
    by_cases hne : bs = []
    · subst hne
      rfl
    · obtain ⟨g, o, ea, hr⟩ := h3 (fun h0 => hne (List.map_eq_nil_iff.1 h0))
      injection ea with ea
      subst ea
      have := run_loadBytes bs w g o .empty hr
      simpa [Extern.Bytes.bytesOf, strOf] using this
theorem run_cmp {w : World} {v u : Value} {a b : List UInt8} (hv : Sl w v a) (hu : Sl w u b) :
    (Extern.BytealgCompare.compare #[v, u]).run Try.prog w = .ok (.int .i64 (Lib.compareBytes a b)) w := by
  change Sem.run Try.prog (do pure (goInt (Extern.BytealgCompare.cmp (← Extern.Bytes.bytesOf v) (← Extern.Bytes.bytesOf u)))) w = _
  simp only [Sem.run_bind, bytesOf_sl hv, bytesOf_sl hu, Sem.run_pure, Result.andThen]
  rw [Lib.cmp_eq]
  simp [strOf, goInt]
set_option maxHeartbeats 1000000 in
theorem compare_any {w : World} {v u : Value} {a b : List UInt8} (hv : Sl w v a) (hu : Sl w u b) :
    Calls Try.prog 47 #[v, u] w fun e w' => e = .returned (.int .i64 (Lib.compareBytes a b)) ∧ w' = w := by
  have HR := hide (run_cmp hv hu)
  clear hv hu
  go_enter Try.func47, Try.ntmps47
  go_wp2
  rw [run_callFunc_extern Try.func57 (by kernel_rfl) (by kernel_rfl) (by kernel_rfl) (e := Extern.BytealgCompare.compare) (by kernel_rfl), HR.out]
  simp only [Result.andThen]
  rw [Oper.upon_value]
  go_wp2
  go_ret
  exact ⟨rfl, rfl⟩
/-! ### Clone -/
theorem owns_new (w : World) (base : Nat) (e : TypeId) (hb : base ≤ w.heap.size) : (w.alloc (.cells #[] e)).ownsRow base e 1 (.slice (some ⟨w.heap.size, 0, none⟩) 0 0) 0 [] :=
  ⟨rfl, .inr ⟨w.heap.size, 0, #[], rfl, hb, heap_alloc_new w _, Nat.le_refl _, Nat.zero_le _, rfl, rfl⟩⟩
theorem buildNone (w : World) : (Instr.buildSlice 28 0 #[]).run Try.prog w = .ok (.slice (some ⟨w.heap.size, 0, none⟩) 0 0) (w.alloc (.cells #[] 5)) := by
  kernel_rfl
theorem buildNoneI (w : World) : (Instr.buildSlice 24 0 #[]).run Try.prog w = .ok (.slice (some ⟨w.heap.size, 0, none⟩) 0 0) (w.alloc (.cells #[] 3)) := by
  kernel_rfl
theorem isNil0 (c : Nat) (w : World) : (binOp .eql 28 (.slice none 0 c) (.slice none 0 0)).run Try.prog w = .ok (.bool true) w := by kernel_rfl
theorem isNil1 (a : Addr) (n c : Nat) (w : World) : (binOp .eql 28 (.slice (some a) n c) (.slice none 0 0)).run Try.prog w = .ok (.bool false) w := by kernel_rfl
theorem isNil0I (c : Nat) (w : World) : (binOp .eql 24 (.slice none 0 c) (.slice none 0 0)).run Try.prog w = .ok (.bool true) w := by kernel_rfl
theorem isNil1I (a : Addr) (n c : Nat) (w : World) : (binOp .eql 24 (.slice (some a) n c) (.slice none 0 0)).run Try.prog w = .ok (.bool false) w := by kernel_rfl
set_option maxHeartbeats 400000 in
theorem clone_any {w : World} {v : Value} {bs : List UInt8} (h : Sl w v bs) (hl : bs.length ≤ 140737488355328) : Calls Try.prog 29 #[v] w fun e w' => ∃ v', e = .returned v' ∧ Bts w w' v' bs := by
  have H := hide h
  obtain ⟨ao, c, rfl, hc1, hc2⟩ := h.len
  cases ao with
  | none =>
    have hb : bs = [] := by
      refine Classical.byContradiction fun hne => ?_
      obtain ⟨ao, c', e, _, _, h3⟩ := h
      injection e with e1 e2 e3
      subst e1
      obtain ⟨g, o, ea, _⟩ := h3 (fun h0 => hne (List.map_eq_nil_iff.1 h0))
      cases ea
    subst hb
    have hq := isNil0 c
    clear h hl hc1 hc2
    go_enter Try.func29, Try.ntmps29
    go_wp2
    go_ret
    exact ⟨_, rfl, Bts.nil (Below.refl _ _)⟩
  | some a =>
    have HB : Hid (Below w.heap.size w (w.alloc (.cells #[] 5))) := (Below.refl _ _).alloc (Nat.le_refl _) _
    have HX := hide (h.belowW HB.out)
    have hbn := buildNone
    have hq := isNil1 a bs.length c
    have HO := hide (owns_new w w.heap.size 5 (Nat.le_refl _))
    clear h
    go_enter Try.func29, Try.ntmps29
    go_wp2_with (refine wpList_append_row rfl (.tmp 5) (.tmp 6) 28 rfl w.heap.size 5 (.int .u8 0) 1 1 Try.underlying28 Try.info5 rfl (by omega) _ 0 [] _ bs.length (secCells bs) rfl rfl HO.out HX.out (by rw [length_secCells]; omega) (one_secCells bs) (by omega) (by omega) HB.out.size ?_; intro v' W' ho hgr)
    go_ret
    rw [Nat.zero_add, List.nil_append] at ho
    exact ⟨_, rfl, grown_below HB.out HO.out hgr, ho⟩
theorem one_intCells (l : List Int) : ∀ v ∈ intCells l, v.oneCell' = true := by
  intro v hv
  obtain ⟨b, _, rfl⟩ := List.mem_map.1 hv
  rfl
theorem length_intCells (l : List Int) : (intCells l).length = l.length := by simp [intCells]
def InAt (w : World) (v : Value) (l : List Int) : Prop := Row w v l.length (intCells l)
theorem InAt.belowW {w w' : World} {v : Value} {l : List Int} (h : InAt w v l) (hb : Below w.heap.size w w') : InAt w' v l := Row.belowW h hb
theorem InAt.len {w : World} {v : Value} {l : List Int} (h : InAt w v l) : ∃ ao c, v = .slice ao l.length c ∧ l.length ≤ c ∧ c ≤ maxLen := let ⟨ao, c, e, h1, h2, _⟩ := h; ⟨ao, c, e, h1, h2⟩
theorem InAt.get {w : World} {ao : Option Addr} {n c : Nat} {l : List Int} (h : InAt w (.slice ao n c) l) (i : Nat) (hi : i < l.length) : ∃ g o, ao = some ⟨g, o, none⟩ ∧ w.cell? ⟨g, o + i, none⟩ = some (.int .i64 (l.getD i 0)) := by
  obtain ⟨ao', c', e, h1, h2, h3⟩ := h
  injection e with e1 e2 e3
  subst e1
  have hu : (intCells l)[i]? = some (.int .i64 (l.getD i 0)) := by simp [intCells, icell, hi]
  obtain ⟨g, o, ea, hr⟩ := h3 (fun h0 => by rw [h0] at hu; simp at hu)
  exact ⟨g, o, ea, hr i _ hu⟩
theorem InAt.nil (w : World) : InAt w (.slice none 0 0) [] := Row.nil w
theorem InAt.to {w : World} {ao : Option Addr} {n c : Nat} {l : List Int} (h : InAt w (.slice ao n c) l) (k : Nat) (hk : k ≤ l.length) : InAt w (.slice ao k c) (l.take k) := by
  have hn : n = l.length := by obtain ⟨_, _, e, _⟩ := h; injection e
  subst hn
  have := Row.cut_to h k hk
  unfold InAt
  rw [List.length_take, Nat.min_eq_left hk]
  have e : intCells (l.take k) = (intCells l).take k := by simp [intCells]
  rw [e]
  exact this
theorem InAt.from {w : World} {ao : Option Addr} {n c : Nat} {l : List Int} (h : InAt w (.slice ao n c) l) (k : Nat) (hk : k ≤ l.length) : InAt w (.slice (cutAt ao c k) (l.length - k) (c - k)) (l.drop k) := by
  have hn : n = l.length := by obtain ⟨_, _, e, _⟩ := h; injection e
  subst hn
  have := Row.cut_from h (length_intCells l) k hk
  unfold InAt
  rw [List.length_drop]
  have e : intCells (l.drop k) = (intCells l).drop k := by simp [intCells]
  rw [e]
  exact this
set_option maxHeartbeats 400000 in
theorem cloneI_any {w : World} {v : Value} {l : List Int} (h : InAt w v l) (hl : 8 * l.length ≤ 140737488355328) : Calls Try.prog 49 #[v] w fun e w' => ∃ v', e = .returned v' ∧ Below w.heap.size w w' ∧ w'.ownsRow w.heap.size 3 1 v' l.length (intCells l) := by
  have H := hide h
  obtain ⟨ao, c, rfl, hc1, hc2⟩ := h.len
  cases ao with
  | none =>
    have hb : l = [] := by
      refine Classical.byContradiction fun hne => ?_
      obtain ⟨ao, c', e, _, _, h3⟩ := h
      injection e with e1 e2 e3
      subst e1
      obtain ⟨g, o, ea, _⟩ := h3 (fun h0 => hne (List.map_eq_nil_iff.1 h0))
      cases ea
    subst hb
    have hq := isNil0I c
    clear h hl hc1 hc2
    go_enter Try.func49, Try.ntmps49
    go_wp2
    go_ret
    exact ⟨_, rfl, Below.refl _ _, World.ownsRow_nil _ _ _ _⟩
  | some a =>
    have HB : Hid (Below w.heap.size w (w.alloc (.cells #[] 3))) := (Below.refl _ _).alloc (Nat.le_refl _) _
    have HX := hide (h.belowW HB.out)
    have hbn := buildNoneI
    have hq := isNil1I a l.length c
    have HO := hide (owns_new w w.heap.size 3 (Nat.le_refl _))
    clear h
    go_enter Try.func49, Try.ntmps49
    go_wp2_with (refine wpList_append_row rfl (.tmp 5) (.tmp 6) 24 rfl w.heap.size 3 (.int .i64 0) 1 8 Try.underlying24 Try.info3 rfl (by omega) _ 0 [] _ l.length (intCells l) rfl rfl HO.out HX.out (by rw [length_intCells]; omega) (one_intCells l) (by omega) (by omega) HB.out.size ?_; intro v' W' ho hgr)
    go_ret
    rw [Nat.zero_add, List.nil_append] at ho
    exact ⟨_, rfl, grown_below HB.out HO.out hgr, ho⟩
end Go.Proofs.Ytjcobejaldfibaa
