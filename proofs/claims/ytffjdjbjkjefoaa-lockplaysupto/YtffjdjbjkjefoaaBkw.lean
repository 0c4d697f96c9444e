/- The walk of LockBack. -/
import Derived.Test.YtffjdjbjkjefoaaLbl
import Derived.Test.YtffjdjbjkjefoaaHea
import Derived.Test.YtffjdjbjkjefoaaHln
namespace Go.Proofs.Ytffjdjbjkjefoaa
open Go.RowKit Go.WideAt
set_option linter.unusedVariables false
set_option linter.unusedSimpArgs false

theorem i1 : In64 1 := ⟨by omega, by omega⟩
theorem i2 : In64 2 := ⟨by omega, by omega⟩
theorem i3 : In64 3 := ⟨by omega, by omega⟩
/-- As far as the walk has come. -/
structure At (w : World) (t : Nat) (W : World) (B : Tb) (m : Held) (N : Nat) : Prop where
  tab : TabIs W w.heap.size B m N
  below : Below w.heap.size w W
  t : B.t = t
theorem At.by {w W W' : World} {t : Nat} {B : Tb} {m : Held} {N : Nat} (h : At w t W B m N) (hb : Below W.heap.size W W') : At w t W' B m N := ⟨h.tab.belowW hb, h.below.trans (hb.mono h.below.size), h.t⟩
theorem At.moved {w W W' : World} {t : Nat} {B B' : Tb} {m m' : Held} {N N' : Nat} (h : At w t W B m N) (hT : TabIs W' w.heap.size B' m' N') (hM : Moves B B' W W') : At w t W' B' m' N' := ⟨hT, moves_below h.below h.below.size h.tab (Nat.le_refl _) hM, hM.t.trans h.t⟩
section
variable {w W : World} {t : Nat} {B : Tb} {m : Held} {N : Nat} {a b : List (List UInt8 × Int)}
theorem At.take1 (h : At w t W B m N) {aa : Option Addr} {c : Nat} (ha : WantsAt w aa a) (hO : Only a b m) (la : a.length ≤ 5864062014805) (lb : b.length ≤ 5864062014805) (hN : N + a.length ≤ 281474976710655) (hA : Alone m 1) :
    Calls Try.prog 9 #[.pointer (some ⟨t, 0, none⟩), .int .i64 1, .slice aa a.length c] W fun e W' => ∃ B', e = .returned (.bool true) ∧ At w t W' B' (heldN m 1 (grownF (m 1) a)) (N + a.length) := by
  have h1 := take_anyK (c := c) h.tab i1 (ha.belowW h.below) hN hO.pairs (by omega) (hO.names1 la)
  rw [h.t] at h1
  refine h1.mono ?_
  rintro e W' ⟨A, B', m', hg, rfl, hT, hM, hm⟩
  have hA0 := hA.clear hg
  subst hA0
  rw [if_pos rfl] at hm
  subst hm
  exact ⟨B', rfl, h.moved hT hM⟩
theorem At.take2 (h : At w t W B m N) {bb : Option Addr} {c : Nat} (hb : WantsAt w bb b) (hO : Only a b m) (la : a.length ≤ 5864062014805) (lb : b.length ≤ 5864062014805) (hN : N + b.length ≤ 281474976710655) :
    Calls Try.prog 9 #[.pointer (some ⟨t, 0, none⟩), .int .i64 2, .slice bb b.length c] W fun e W' => ∃ A B' m', Against m (grownF (m 2) b) 2 A ∧ e = .returned (.bool A.isEmpty) ∧ At w t W' B' m' (N + b.length) ∧ Only a b m' := by
  have h1 := take_anyK (c := c) h.tab i2 (hb.belowW h.below) hN hO.pairs (by omega) (hO.names2 lb)
  rw [h.t] at h1
  refine h1.mono ?_
  rintro e W' ⟨A, B', m', hg, rfl, hT, hM, hm⟩
  refine ⟨A, B', m', hg, rfl, h.moved hT hM, ?_⟩
  rw [hm]
  split
  · exact hO.two _
  · exact hO
theorem At.take2a (h : At w t W B m N) {bb : Option Addr} {c : Nat} (hb : WantsAt w bb b) (hO : Only a b m) (la : a.length ≤ 5864062014805) (lb : b.length ≤ 5864062014805) (hN : N + b.length ≤ 281474976710655) (hA : Alone m 2) :
    Calls Try.prog 9 #[.pointer (some ⟨t, 0, none⟩), .int .i64 2, .slice bb b.length c] W fun e W' => ∃ B' m', e = .returned (.bool true) ∧ At w t W' B' m' (N + b.length) ∧ Only a b m' ∧ Alone m' 2 := by
  have h1 := take_anyK (c := c) h.tab i2 (hb.belowW h.below) hN hO.pairs (by omega) (hO.names2 lb)
  rw [h.t] at h1
  refine h1.mono ?_
  rintro e W' ⟨A, B', m', hg, rfl, hT, hM, hm⟩
  have hA0 := hA.clear hg
  subst hA0
  rw [if_pos rfl] at hm
  subst hm
  exact ⟨B', _, rfl, h.moved hT hM, hO.two _, hA.held _⟩
theorem At.held1 (h : At w t W B m N) (hO : Only a b m) (la : a.length ≤ 5864062014805) :
    Calls Try.prog 10 #[.pointer (some ⟨t, 0, none⟩), .int .i64 1] W fun e W' => ∃ ao c L, e = .returned (.slice ao L.length c) ∧ HeldIs m 1 L ∧ At w t W' B m N := by
  have h1 := held_all h.tab i1 (hO.row1 la h.tab)
  rw [h.t] at h1
  refine h1.mono ?_
  rintro e W' ⟨v, L, rfl, hr, hL, _, hb⟩
  obtain ⟨ao, c, rfl⟩ := owns_len hr
  exact ⟨ao, c, L, rfl, hL, h.by hb⟩
theorem At.ask (h : At w t W B m N) {id : Int} (hid : In64 id) {aa : Option Addr} {c : Nat} {l : List (List UInt8 × Int)} (hl : WantsAt W aa l) (hO : Only a b m) (la : a.length ≤ 5864062014805) (lb : b.length ≤ 5864062014805) :
    Calls Try.prog 11 #[.pointer (some ⟨t, 0, none⟩), .int .i64 id, .slice aa l.length c] W fun e W' => ∃ ao c' A, e = .returned (.slice ao A.length c') ∧ Against m (grownF (m id) l) id A ∧ At w t W' B m N := by
  have h1 := ask_anyK (c := c) h.tab hid hl hO.pairs (by omega)
  rw [h.t] at h1
  refine h1.mono ?_
  rintro e W' ⟨v, A, rfl, hr, hA, _, hb⟩
  obtain ⟨ao, c', rfl⟩ := owns_len hr
  exact ⟨ao, c', A, rfl, hA, h.by hb⟩
theorem At.release (h : At w t W B m N) {id : Int} (hid : In64 id) (hN : N ≤ 281474976710656) :
    Calls Try.prog 12 #[.pointer (some ⟨t, 0, none⟩), .int .i64 id] W fun e W' => ∃ B', e = .returned (.tuple #[]) ∧ At w t W' B' (freeH m id) N := by
  have h1 := release_any h.tab hN hid
  rw [h.t] at h1
  refine h1.mono ?_
  rintro e W' ⟨rfl, B', hT, hM⟩
  exact ⟨B', rfl, h.moved hT hM⟩
end
theorem len_eq0 (A : List Int) : (((A.length : Nat) : Int) == 0) = A.isEmpty := by
  cases A with
  | nil => rfl
  | cons x A => rw [beq_eq_false_iff_ne.2 (by simp; omega)]; rfl
set_option maxHeartbeats 4000000 in
set_option maxRecDepth 100000 in
theorem back_walk {w : World} {aa bb : Option Addr} {ca cb : Nat} {a b : List (List UInt8 × Int)} (ha : WantsAt w aa a) (hb : WantsAt w bb b) (la : a.length ≤ 5864062014805) (lb : b.length ≤ 5864062014805) :
    Calls Try.prog 3 #[.slice aa a.length ca, .slice bb b.length cb] w fun e w' => e = .returned (.bool true) ∧ Below w.heap.size w w' := by
  have HNEW := hide (new_any w)
  have HA := hide ha
  have HB := hide hb
  have LA := hide la
  have LB := hide lb
  clear ha hb la lb
  go_enter Try.func3, Try.ntmps3
  go_upto_region 2 with (go_at_call 8; refine HNEW.out.mono ?_; rintro e x1 ⟨B0, rfl, hT, hB⟩; have H1 : Hid (At w B0.t x1 B0 (fun _ _ => none) 0) := ⟨hT, hB, rfl⟩; clear hT hB)
  generalize B0.t = t at *
  have O0 := hide (Only.zero a b)
  have C2 := hide (H1.out.take1 (c := ca) HA.out O0.out LA.out LB.out (by have := LA.out; omega) (Alone.zero 1))
  have O2 := hide (O0.out.one ((fun _ _ => none : Held) 1))
  have A2 := hide ((Alone.zero 1).held (grownF ((fun _ _ => none : Held) 1) a))
  go_upto_region 4 with (go_at_call 9; refine C2.out.mono ?_; rintro e x2 ⟨B1, rfl, h⟩; have H2 := hide h; clear h)
  clear C2 H1
  obtain ⟨m1, hm1⟩ : ∃ m1, heldN (fun _ _ => none) 1 (grownF ((fun _ _ => none : Held) 1) a) = m1 := ⟨_, rfl⟩
  have HD1 : Hid (∀ s, m1 1 s ≠ none ↔ ∃ x ∈ a, x.1 = s ∧ isMode x.2 = true) := fun s => by
    rw [← hm1, heldN_dom, ← grownF_dom ((fun _ _ => none : Held) 1) a s]
    simp
  rw [hm1] at H2 O2 A2
  clear hm1
  have C4 := hide (H2.out.held1 O2.out LA.out)
  go_upto_region 5 with (go_at_call 10; refine C4.out.mono ?_; rintro e x3 ⟨ao1, c1, L1, rfl, hL, h⟩; have HL1 := hide hL; have H3 := hide h; clear hL h)
  clear C4 H2
  have C5 := hide (H3.out.take1 (c := ca) HA.out O2.out LA.out LB.out (by have := LA.out; omega) A2.out)
  have O5 := hide (O2.out.one (m1 1))
  have A5 := hide (A2.out.held (grownF (m1 1) a))
  obtain ⟨m2, hm2⟩ : ∃ m2, heldN m1 1 (grownF (m1 1) a) = m2 := ⟨_, rfl⟩
  have HD2 : Hid (∀ s, m2 1 s ≠ none ↔ m1 1 s ≠ none) := fun s => by
    rw [← hm2, heldN_dom, grownF_dom (m1 1) a s, ← HD1.out s]
    simp
  rw [hm2] at C5 O5 A5
  clear hm2
  go_upto_region 7 with (first
    | (go_at_call 9; refine C5.out.mono ?_; rintro e x4 ⟨B2, rfl, h⟩; have H4 := hide h; have C6 := hide (h.held1 O5.out LA.out); clear h)
    | (go_at_call 10; refine C6.out.mono ?_; rintro e x5 ⟨ao2, c2, L2, rfl, hL, h⟩; have hll := HL1.out.len hL HD2.out; rw [hll]; have H5 := hide h; have C7 := hide (h.ask (c := cb) i1 (HB.out.belowW h.below) O5.out LA.out LB.out); clear hL h hll)
    | (go_at_call 11; refine C7.out.mono ?_; rintro e x6 ⟨ao3, c3, A3, rfl, hA, h⟩; have hA0 := A5.out.clear hA; subst hA0; have H6 := hide h; clear hA h))
  clear C5 C6 C7 H3 H4 H5
  have C8 := hide (H6.out.ask (c := cb) i2 (HB.out.belowW H6.out.below) O5.out LA.out LB.out)
  go_upto_region 8 with (go_at_call 11; refine C8.out.mono ?_; rintro e x7 ⟨ao4, c4, A4, rfl, hA, h⟩; have HA4 := hide hA; have H7 := hide h; have hlq := len_eq0 A4; clear hA h)
  clear C8 H6
  try rw [len_eq0]
  try clear hlq
  have C9 := hide (H7.out.take2 (c := cb) HB.out O5.out LA.out LB.out (by have := LA.out; have := LB.out; omega))
  go_upto_region 10 with (go_at_call 9; refine C9.out.mono ?_; rintro e x8 ⟨A6, B3, m3, hA, rfl, h, hO⟩; have hAA := HA4.out.one hA; subst hAA; have H8 := hide h; have O8 := hide hO; clear hA h hO)
  clear C9 H7
  have hN8 : 0 + a.length + a.length + b.length ≤ 281474976710656 := by have := LA.out; have := LB.out; omega
  have C10 := hide (H8.out.release i1 hN8)
  have O10 := hide (O8.out.free 1)
  have A10 := hide O8.out.alone2
  have V10 : Hid (∀ s, freeH m3 1 1 s = none) := fun s => by
    cases hx : freeH m3 1 1 s with
    | none => rfl
    | some v => exact absurd rfl (freeH_dom.1 (show freeH m3 1 1 s ≠ none by rw [hx]; simp)).1
  generalize freeH m3 1 = m4 at *
  clear hN8
  go_upto_region 11 with (go_at_call 12; refine C10.out.mono ?_; rintro e x9 ⟨B4, rfl, h⟩; have H9 := hide h; clear h)
  clear C10 H8 O8 HA4
  have C11 := hide (H9.out.held1 O10.out LA.out)
  go_upto_region 13 with (first
    | (go_at_call 10; refine C11.out.mono ?_; rintro e x10 ⟨ao5, c5, L3, rfl, hL, h⟩; have hL0 := hL.nil V10.out; subst hL0; have C12 := hide (h.take2a (c := cb) HB.out O10.out LA.out LB.out (by have := LA.out; have := LB.out; omega) A10.out); clear hL h)
    | (go_at_call 9; refine C12.out.mono ?_; rintro e x11 ⟨B5, m5, rfl, h, hO, hA⟩; have H11 := hide h; have O11 := hide hO; have A11 := hide hA
       have C13 : Hid (Calls Try.prog 11 #[.pointer (some ⟨t, 0, none⟩), .int .i64 1, .slice none 0 0] x11 fun e W' => ∃ ao c' A, e = .returned (.slice ao A.length c') ∧ Against m5 (grownF (m5 1) []) 1 A ∧ At w t W' B5 m5 (0 + a.length + a.length + b.length + b.length)) := h.ask (l := []) (c := 0) i1 ⟨by simp, fun i x hx => by simp at hx⟩ hO LA.out LB.out
       clear h hO hA)
    | (go_at_call 11; refine C13.out.mono ?_; rintro e x12 ⟨ao6, c6, A7, rfl, hA, h⟩; have hA0 := hA.nothing (fun s => grownF_nil _ s); subst hA0; have H12 := hide h; clear hA h))
  clear C11 C12 C13 H9 H11
  have hN12 : 0 + a.length + a.length + b.length + b.length ≤ 281474976710656 := by have := LA.out; have := LB.out; omega
  have C14 := hide (H12.out.release i2 hN12)
  have O14 := hide (O11.out.free 2)
  have V14 := hide A11.out.free
  generalize freeH m5 2 = m6 at *
  clear hN12
  go_upto_region 14 with (go_at_call 12; refine C14.out.mono ?_; rintro e x13 ⟨B6, rfl, h⟩; have H13 := hide h; clear h)
  clear C14 H12
  have hbw := buildWant ⟨#[]⟩ 5 x13
  have H14 := hide (H13.out.by (alloc_below x13 (.cells #[.string ⟨#[]⟩, .int .i64 5] 31)))
  have C15 : Hid (Calls Try.prog 11 #[.pointer (some ⟨t, 0, none⟩), .int .i64 3, .slice (some ⟨x13.heap.size, 0, none⟩) 1 1] (x13.alloc (.cells #[.string ⟨#[]⟩, .int .i64 5] 31)) fun e W' => ∃ ao c' A, e = .returned (.slice ao A.length c') ∧ Against m6 (grownF (m6 3) [([], 5)]) 3 A ∧ At w t W' B6 m6 (0 + a.length + a.length + b.length + b.length)) := H14.out.ask (l := [([], 5)]) (c := 1) i3 (wants1 (heap_alloc_new x13 _) (by show 0 ≤ _; omega) ⟨by omega, by omega⟩) O14.out LA.out LB.out
  clear H13 H14
  go_wp2_with (first
    | (go_at_call 11; refine C15.out.mono ?_; rintro e x14 ⟨ao7, c7, A8, rfl, hA, h⟩; have hA0 := hA.vacant V14.out; subst hA0; have H15 := hide h
       have C16 : Hid (Calls Try.prog 13 #[.pointer (some ⟨t, 0, none⟩), .string { data := #[] }] x14 fun e w' => e = .returned (.slice none 0 0) ∧ Below x14.heap.size x14 w') := by
         have h1 := holders_none h.tab (s := []) (by show 0 ≤ _; omega) (h.tab.vacant V14.out [])
         rw [h.t] at h1
         exact h1
       clear hA h)
    | (go_at_call 13; refine C16.out.mono ?_; rintro e x15 ⟨rfl, hb⟩; have H16 := hide (H15.out.by hb); clear hb)
    | (go_at_call 14; refine (awake_any _).mono ?_; rintro e x17 ⟨rfl, hb⟩; have H17 := hide (H16.out.by hb); clear hb))
  go_ret
  exact ⟨rfl, H17.out.below⟩
end Go.Proofs.Ytffjdjbjkjefoaa
