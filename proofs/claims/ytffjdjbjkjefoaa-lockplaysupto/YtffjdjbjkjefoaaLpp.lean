/- LockPlays: what its walk keeps, and each call. -/
import Derived.Test.YtffjdjbjkjefoaaLps
import Derived.Test.YtffjdjbjkjefoaaRtn
namespace Go.Proofs.Ytffjdjbjkjefoaa
open Go.RowKit Go.WideAt
set_option linter.unusedVariables false
set_option linter.unusedSimpArgs false

/-- The program's table says m, the document's says d. -/
structure Pl (w : World) (t rt : Nat) (W : World) (B : Tb) (m d : Held) (N K : Nat) (v : Value) (hs : List Ht) : Prop where
  tab : At w t W B m N
  doc : RtAt W w.heap.size rt v hs
  of : TbOf hs d
  len : hs.length ≤ K
  sep : Sep B rt v
section
variable {w W W' : World} {t rt : Nat} {B B' : Tb} {m d m' : Held} {N K N' K' : Nat} {v v' : Value} {hs : List Ht} {id : Int} {L : List Wn}
theorem Pl.by (h : Pl w t rt W B m d N K v hs) (hb : Below W.heap.size W W') : Pl w t rt W' B m d N K v hs := ⟨h.tab.by hb, h.doc.belowW hb, h.of, h.len, h.sep⟩
theorem Pl.mono (h : Pl w t rt W B m d N K v hs) (hN : N ≤ N') (hK : K ≤ K') : Pl w t rt W B m d N' K' v hs := ⟨⟨h.tab.tab.mono hN, h.tab.below, h.tab.t⟩, h.doc, h.of, Nat.le_trans h.len hK, h.sep⟩
theorem Pl.held (h : Pl w t rt W B m d N K v hs) (hid : In64 id) (hN : N ≤ 1000000000000) :
    Calls Try.prog 10 #[.pointer (some ⟨t, 0, none⟩), .int .i64 id] W fun e W' => ∃ ao c L, e = .returned (.slice ao (L : List Wn).length c) ∧ HeldIs m id L ∧ L.length ≤ N ∧ Wl W' ao L ∧ Below W.heap.size W W' := by
  have h1 := held_all h.tab.tab hid (by have := h.tab.tab.names_le id; omega)
  rw [h.tab.t] at h1
  refine h1.mono ?_
  rintro e W' ⟨v, L, rfl, hr, hL, hn, hb⟩
  obtain ⟨ao, c, rfl⟩ := owns_len hr
  exact ⟨ao, c, L, rfl, hL, hn, Wl.of_owns hr, hb⟩
theorem Pl.rheld (h : Pl w t rt W B m d N K v hs) (hK : K ≤ 1000000000) (id : Int) :
    Calls Try.prog 24 #[.pointer (some ⟨rt, 0, none⟩), .int .i64 id] W fun e W' => ∃ ap c F, e = .returned (.slice ap (F : List Wn).length c) ∧ HeldIs d id F ∧ Wl W' ap F ∧ Below W.heap.size W W' := by
  refine (rheld_any h.doc (Nat.le_trans h.len hK) (fun k x hx => h.of.take k x hx) id).mono ?_
  rintro e W' ⟨ap, c, F, rfl, hF, hW, hb⟩
  exact ⟨ap, c, F, rfl, HsIs.held h.of hF, hW, hb⟩
theorem Pl.holders (h : Pl w t rt W B m d N K v hs) (hN : N ≤ 1000000000000) {s : List UInt8} (hs' : NameOk s) :
    Calls Try.prog 13 #[.pointer (some ⟨t, 0, none⟩), scell s] W fun e W' => ∃ v A, e = .returned v ∧ W'.ownsRow W.heap.size 3 1 v (A : List Int).length (A.map icell) ∧ HoldIs m s A ∧ Below W.heap.size W W' := by
  have h1 := holders_any h.tab.tab hs' hN
  rw [h.tab.t] at h1
  exact h1
theorem Pl.rholders (h : Pl w t rt W B m d N K v hs) (hK : K ≤ 1000000000) (s : List UInt8) :
    Calls Try.prog 25 #[.pointer (some ⟨rt, 0, none⟩), scell s] W fun e W' => ∃ v A, e = .returned v ∧ W'.ownsRow W.heap.size 3 1 v (A : List Int).length (A.map icell) ∧ HoldIs d s A ∧ A.length ≤ K ∧ Below W.heap.size W W' := by
  refine (rholders_any h.doc (Nat.le_trans h.len hK) s).mono ?_
  rintro e W' ⟨v, A, rfl, hr, hA, hb⟩
  exact ⟨v, A, rfl, hr, RhIs.hold h.of hA, Nat.le_trans hA.len h.len, hb⟩
theorem Pl.ask (h : Pl w t rt W B m d N K v hs) (hid : In64 id) {aa : Option Addr} {c : Nat} {l : List Wn} (hl : WantsAt W aa l) (hN : N ≤ 1000000000000) :
    Calls Try.prog 11 #[.pointer (some ⟨t, 0, none⟩), .int .i64 id, .slice aa l.length c] W fun e W' => ∃ v A, e = .returned v ∧ W'.ownsRow W.heap.size 3 1 v (A : List Int).length (A.map icell) ∧ Against m (grownF (m id) l) id A ∧ Below W.heap.size W W' := by
  have h1 := ask_any (c := c) h.tab.tab hid hl (by omega)
  rw [h.tab.t] at h1
  refine h1.mono ?_
  rintro e W' ⟨v, A, rfl, hr, hA, _, hb⟩
  exact ⟨v, A, rfl, hr, hA, hb⟩
theorem Pl.rask (h : Pl w t rt W B m m N K v hs) (hK : K ≤ 1000000000) (id : Int) {al : Option Addr} {c : Nat} (hL : Wl W al L) (hLl : L.length ≤ 1000000000) :
    Calls Try.prog 22 #[.pointer (some ⟨rt, 0, none⟩), .int .i64 id, .slice al L.length c] W fun e W' => ∃ v A, e = .returned v ∧ W'.ownsRow W.heap.size 3 1 v (A : List Int).length (A.map icell) ∧ Against m (grownF (m id) L) id A ∧ A.length ≤ K ∧ Below W.heap.size W W' := by
  refine (rask_any h.doc (Nat.le_trans h.len hK) id (cl := c) hL hLl).mono ?_
  rintro e W' ⟨v, A, rfl, hr, hA, hb⟩
  exact ⟨v, A, rfl, hr, RaIs.against h.of (fun x s p e => (h.tab.tab.good x s p e).1) hA, Nat.le_trans hA.len h.len, hb⟩
theorem Pl.release1 (h : Pl w t rt W B m d N K v hs) (hid : In64 id) (hN : N ≤ 281474976710656) :
    Calls Try.prog 12 #[.pointer (some ⟨t, 0, none⟩), .int .i64 id] W fun e W' => e = .returned (.tuple #[]) ∧ ∃ B', Pl w t rt W' B' (freeH m id) d N K v hs ∧ Moves B B' W W' := by
  have h1 := release_any h.tab.tab hN hid
  rw [h.tab.t] at h1
  refine h1.mono ?_
  rintro e W' ⟨rfl, B', hT, hM⟩
  obtain ⟨p, q⟩ := moves_doc h.doc h.sep hM
  exact ⟨rfl, B', ⟨h.tab.moved hT hM, p, h.of, h.len, q⟩, hM⟩
theorem Pl.release2 (h : Pl w t rt W B m d N K v hs) (hK : K ≤ 1000000000) (id : Int) :
    Calls Try.prog 23 #[.pointer (some ⟨rt, 0, none⟩), .int .i64 id] W fun e W' => e = .returned (.tuple #[]) ∧ ∃ v' hs', Pl w t rt W' B m (freeH d id) N K v' hs' ∧ Off (rt :: v.ownBlock.toList) W W' := by
  refine (rrelease_any h.doc (Nat.le_trans h.len hK) id).mono ?_
  rintro e W' ⟨rfl, v', hR, ho, hv⟩
  have ho' : Off (rt :: v.ownBlock.toList) W W' := ho.mono fun i hi => by rw [List.mem_singleton] at hi; subst hi; simp
  obtain ⟨p, q⟩ := off_prog h.tab h.doc h.sep ho' (fun b hb => .inr (hv b hb))
  exact ⟨rfl, v', _, ⟨p, hR, h.of.free id, Nat.le_trans (List.length_filter_le _ _) h.len, q⟩, ho'⟩
theorem Pl.take1 (h : Pl w t rt W B m d N K v hs) (hid : In64 id) {aa : Option Addr} {c : Nat} {l : List Wn} (hl : WantsAt W aa l) (hN : N + l.length ≤ 1000000000000) :
    Calls Try.prog 9 #[.pointer (some ⟨t, 0, none⟩), .int .i64 id, .slice aa l.length c] W fun e W' => ∃ A B' m', Against m (grownF (m id) l) id A ∧ e = .returned (.bool A.isEmpty) ∧ Pl w t rt W' B' m' d (N + l.length) K v hs ∧ Moves B B' W W' ∧ m' = if A = [] then heldN m id (grownF (m id) l) else m := by
  have h1 := take_any (c := c) h.tab.tab hid hl (by omega)
  rw [h.tab.t] at h1
  refine h1.mono ?_
  rintro e W' ⟨A, B', m', hA, rfl, hT, hM, hm⟩
  obtain ⟨p, q⟩ := moves_doc h.doc h.sep hM
  exact ⟨A, B', m', hA, rfl, ⟨h.tab.moved hT hM, p, h.of, h.len, q⟩, hM, hm⟩
theorem Pl.take2 (h : Pl w t rt W B m' m N K v hs) (hK : K ≤ 1000000000) (id : Int) {A : List Int} (h6 : ∀ s, In6 ((m id s).getD 0)) (hg : ∀ x s p, m x s = some p → isMode p = true) (hA : Against m (grownF (m id) L) id A) (hm : m' = if A = [] then heldN m id (grownF (m id) L) else m)
    {al : Option Addr} {c : Nat} (hL : Wl W al L) (hLl : L.length ≤ 1000000000) (hn : ∀ q o, al = some ⟨q, o, none⟩ → q ≠ rt ∧ v.ownBlock ≠ some q) :
    Calls Try.prog 19 #[.pointer (some ⟨rt, 0, none⟩), .int .i64 id, .slice al L.length c] W fun e W' => e = .returned (.bool A.isEmpty) ∧ ∃ v' hs', Pl w t rt W' B m' m' N (K + L.length) v' hs' ∧ Off (rt :: v.ownBlock.toList) W W' := by
  refine (rtake_any h.doc (Nat.le_trans h.len hK) id (cl := c) hL hLl hn).mono ?_
  rintro e W' ⟨A', g, v', hA', rfl, h1, h2⟩
  have e1 : A' = A := hA.one (RaIs.against h.of hg hA')
  subst e1
  by_cases e : A' = []
  · have hT := h2 e
    rw [if_pos e] at hm
    have ht := h.of.takeL h6 hT.tk
    rw [midH_end h6] at ht
    obtain ⟨p, q⟩ := off_prog h.tab h.doc h.sep hT.off hT.own
    exact ⟨rfl, v', g, ⟨p, hT.tab, by rw [hm]; exact ht, by have := hT.len; have := h.len; omega, q⟩, hT.off⟩
  · have hT := h1 e
    rw [if_neg e] at hm
    obtain ⟨p, q⟩ := off_prog h.tab h.doc h.sep hT.off hT.own
    exact ⟨rfl, v', g, ⟨p, hT.tab, by rw [hm]; exact untaken h.of hT, by have := hT.len; have := h.len; omega, q⟩, hT.off⟩
end
theorem op_neqstr (ρ : Operand → Value) (o : Oper) (x y : Operand) (tt : TypeId) (ho : o.op = .binOp .neq 9 x y tt) (a : List UInt8) (hx : ρ x = .string (strOf a)) (hy : ρ y = .string (strOf a)) {w : World} : (execOp ρ o).run Try.prog w = .ok (.value (.bool false)) w := by
  have hu := Try.underlying9
  have he := beq_str a a
  rw [decide_eq_true rfl] at he
  unfold execOp
  simp only [ho, hx, hy]
  simp [go_sem, hu, he]
end Go.Proofs.Ytffjdjbjkjefoaa
