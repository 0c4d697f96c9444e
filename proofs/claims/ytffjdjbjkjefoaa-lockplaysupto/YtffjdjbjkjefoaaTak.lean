/- Take, Ask, New. -/
import Derived.Test.YtffjdjbjkjefoaaHld
namespace Go.Proofs.Ytffjdjbjkjefoaa
open Go.RowKit Go.WideAt
set_option linter.unusedVariables false
set_option linter.unusedSimpArgs false

theorem join_mode {a b : Int} (h : isMode b = true) : isMode (join a b) = true := by
  have hb := known_some h
  unfold join
  rcases isMode_known h with e | e | e | e | e <;> subst e <;> rcases known_cases a with e2 | e2 | e2 | e2 | e2 | e2 <;> rw [e2] <;> rfl
theorem grownF_ok (m : List UInt8 → Option Int) : ∀ (l : List (List UInt8 × Int)) (s : List UInt8) (md : Int), grownF m l s = some md → isMode md = true ∧ ∃ x ∈ l, x.1 = s := by
  suffices ∀ (l : List (List UInt8 × Int)) (l0 : List (List UInt8 × Int)) (g : List UInt8 → Option Int), (∀ s md, g s = some md → isMode md = true ∧ ∃ x ∈ l0, x.1 = s) → ∀ s md, l.foldl (grow1 m) g s = some md → isMode md = true ∧ ∃ x ∈ l0 ++ l, x.1 = s by
    intro l s md h
    have := this l [] (fun _ => none) (by intro s md h; cases h) s md h
    simpa using this
  intro l
  induction l with
  | nil => intro l0 g hg s md h; simpa using hg s md h
  | cons a l ih =>
    intro l0 g hg s md h
    have := ih (l0 ++ [a]) (grow1 m g a) (fun s md h => ?_) s md h
    · simpa using this
    · unfold grow1 at h
      by_cases e : isMode a.2 = true
      · rw [if_pos e] at h
        by_cases e2 : s = a.1
        · rw [if_pos e2] at h
          injection h with h
          subst h
          exact ⟨join_mode e, a, by simp, e2.symm⟩
        · rw [if_neg e2] at h
          obtain ⟨h1, x, h2, h3⟩ := hg s md h
          exact ⟨h1, x, by simp [h2], h3⟩
      · rw [if_neg e] at h
        obtain ⟨h1, x, h2, h3⟩ := hg s md h
        exact ⟨h1, x, by simp [h2], h3⟩
theorem WantsAt.name {w : World} {a : Option Addr} {l : List (List UInt8 × Int)} (h : WantsAt w a l) {x : List UInt8 × Int} (hx : x ∈ l) : NameOk x.1 := by
  obtain ⟨i, hi, rfl⟩ := List.mem_iff_getElem.1 hx
  exact (h.at' i _ (List.getElem?_eq_getElem hi)).1
theorem WantsAt.grown_name {w : World} {a : Option Addr} {l : List (List UInt8 × Int)} (h : WantsAt w a l) (m : List UInt8 → Option Int) (s : List UInt8) (md : Int) (hg : grownF m l s = some md) : NameOk s := by
  obtain ⟨_, x, hx, rfl⟩ := grownF_ok m l s md hg
  exact h.name hx
/-- id holds what it has grown to. -/
def heldN (m : Held) (id : Int) (g : List UInt8 → Option Int) : Held := fun x s => if x = id then (g s).or (m id s) else m x s
/-- .. but for what is left. -/
def heldL (m : Held) (id : Int) (g : List UInt8 → Option Int) (left : Lit → Bool) : Held := fun x s => if x = id ∧ left (.string s) = false then (g s).or (m id s) else m x s
theorem heldL_start (m : Held) (id : Int) (g : List UInt8 → Option Int) (left : Lit → Bool) (h : ∀ s, left (.string s) = (g s).isSome) : heldL m id g left = m := by
  funext x s
  unfold heldL
  by_cases e : x = id ∧ left (.string s) = false
  · rw [if_pos e]
    have h1 := e.2
    rw [h] at h1
    rw [Option.isSome_eq_false_iff, Option.isNone_iff_eq_none] at h1
    rw [h1, e.1]
    rfl
  · rw [if_neg e]
theorem heldL_end (m : Held) (id : Int) (g : List UInt8 → Option Int) (left : Lit → Bool) (h : ∀ kl, left kl = false) : heldL m id g left = heldN m id g := by
  funext x s
  unfold heldL heldN
  simp [h]
theorem heldL_step (m : Held) (id : Int) (g : List UInt8 → Option Int) (left : Lit → Bool) (s : List UInt8) (md : Int) (hg : g s = some md) : updH (heldL m id g left) id s md = heldL m id g (fun x => left x && !x.sameKey (.string s)) := by
  funext x t
  unfold updH heldL
  by_cases e : t = s
  · subst e
    by_cases e2 : x = id
    · simp [e2, hg, Lit.sameKey]
    · simp [e2]
  · simp [e, Lit.sameKey]
theorem names_cap {w : World} {base : Nat} {B : Tb} {m : Held} {N : Nat} (hT : TabIs w base B m N) {id : Int} {Z : List (List UInt8)} (hZ : Z.length ≤ 5864062014805) (hin : ∀ s, m id s ≠ none → s ∈ Z) {s0 : List UInt8} (h0 : m id s0 = none) (hs0 : s0 ∈ Z) : (B.nm id).length < 5864062014805 := by
  have hnd : (s0 :: B.nm id).Nodup := List.nodup_cons.2 ⟨fun h => (hT.names id s0).1 h h0, hT.nodup id⟩
  have h1 := List.Nodup.length_le_of_subset (l₂ := Z) hnd (fun s hs => by
    rcases List.mem_cons.1 hs with h | h
    · rw [h]; exact hs0
    · exact hin s ((hT.names id s).1 h))
  rw [List.length_cons] at h1
  omega
set_option maxHeartbeats 2000000 in
set_option maxRecDepth 100000 in
theorem take_anyK {w : World} {base : Nat} {B : Tb} {m : Held} {N : Nat} (hT : TabIs w base B m N) {id : Int} (hid : In64 id) {a : Option Addr} {c : Nat} {l : List (List UInt8 × Int)} (hl : WantsAt w a l) (hN : N + l.length ≤ 281474976710655) {K : Nat} (hK : ∃ l : List (Int × List UInt8), l.length ≤ K ∧ ∀ x s, m x s ≠ none → (x, s) ∈ l) (hKN : K ≤ 11728124029610) (hC : ∃ Z : List (List UInt8), Z.length ≤ 5864062014805 ∧ ∀ s, (m id s ≠ none ∨ grownF (m id) l s ≠ none) → s ∈ Z) :
    Calls Try.prog 9 #[.pointer (some ⟨B.t, 0, none⟩), .int .i64 id, .slice a l.length c] w fun e w' => ∃ A B' m', Against m (grownF (m id) l) id A ∧ e = .returned (.bool A.isEmpty) ∧ TabIs w' base B' m' (N + l.length) ∧ Moves B B' w w' ∧ m' = if A = [] then heldN m id (grownF (m id) l) else m := by
  have HGW := hide (grown_any hT hid hl (c := c))
  have HGN : Hid (∀ s md, grownF (m id) l s = some md → NameOk s) := hl.grown_name (m id)
  have HGM : Hid (∀ s md, grownF (m id) l s = some md → isMode md = true) := fun s md h => (grownF_ok (m id) l s md h).1
  have HT := hide hT
  have HKK := hide hK
  have HKN := hide hKN
  have HC := hide hC
  obtain ⟨L, hL⟩ : ∃ L, l.length = L := ⟨_, rfl⟩
  obtain ⟨g, hg⟩ : ∃ g, grownF (m id) l = g := ⟨_, rfl⟩
  rw [hL] at HGW hN ⊢
  rw [hg] at HGW HGN HGM HC ⊢
  have HN := hide hN
  clear hT hN hl hL hg hK hKN hC
  go_enter Try.func9, Try.ntmps9
  go_upto_region 2 with (go_at_call 27; refine HGW.out.mono ?_; rintro e x1 ⟨bg, rfl, hbg, hM1, hB1⟩; have HM1 := hide hM1; have HB1 := hide hB1; clear hM1 hB1)
  have HAG := hide (against_any (HT.out.belowW HB1.out) HKK.out HKN.out hid HM1.out HGN.out)
  have hnb0 : ¬ B.own bg := fun h => by have := HT.out.lt (.inr h); omega
  have hbl1 : bg < x1.heap.size := HM1.out.lt
  go_wp2_with (first
    | (go_at_call 28; refine HAG.out.mono ?_; rintro e x2 ⟨v2, A, rfl, hr2, hA, hlA, hB2⟩; obtain ⟨ao2, c2, rfl⟩ := owns_len hr2
       obtain ⟨x3, left3, cnt3, r1, r2, r3, r4, r5, r6⟩ := (HM1.out.stay (hB2.block _ hbl1)).range keyed9 Try.underlying57
       have HA := hide hA; have HB2 := hide hB2; have HR2 := hide r2; have HR4 := hide r4; have HR5 := hide r5; clear hr2 hA hB2 r2 r4 r5)
    | (at_range; refine wpList_rangeV rfl 57 _ rfl _ _ x3 rfl r1 ?_))
  · have hpos : 0 < A.length := by omega
    have hne : A ≠ [] := fun e => by rw [e] at hpos; simp at hpos
    have hB : Below w.heap.size w x2 := HB1.out.trans (HB2.out.mono HB1.out.size)
    go_ret
    refine ⟨A, B, m, HA.out, ?_, (HT.out.belowW hB).mono (by omega), Moves.below hB, by rw [if_neg hne]⟩
    cases A with
    | nil => exact absurd rfl hne
    | cons x A => rfl
  · rename_i hpos K0 hK0
    have HA0 : Hid (A = []) := List.eq_nil_of_length_eq_zero (by omega)
    have hB2 : Below w.heap.size w x2 := HB1.out.trans (HB2.out.mono HB1.out.size)
    have hB3 : Below w.heap.size w x3 := below_grown2 hB2 HR5.out hB2.size
    have HB3 := hide hB3
    have hlt3 : x2.heap.size < x3.heap.size := by omega
    have hbg2 : bg < x2.heap.size := Nat.lt_of_lt_of_le hbl1 HB2.out.size
    have hws : w.heap.size ≤ x2.heap.size := hB2.size
    clear hpos r1 hB2 hB3
    go_frame
    generalize hR : x2.heap.size = R at *
    go_loopw [8] (fun _ wr => ∃ (left : Lit → Bool) (cnt : Nat) (B' : Tb), RngV wr 9 bg R L (intMap g) left cnt ∧ cnt ≤ L ∧ TabIs wr base B' (heldL m id g left) (N + (L - cnt)) ∧ Moves B B' w wr ∧ ¬ B'.own bg ∧ ¬ B'.own R)
      (fun _ wr => wr.rangeLeft bg R)
    case atStart =>
      refine ⟨left3, cnt3, B, HR2.out, r3, ?_, Moves.below HB3.out, hnb0, fun h => by have := HT.out.lt (.inr h); omega⟩
      rw [heldL_start m id g left3 (fun s => by
        rw [HR4.out _ (kl_str s)]
        show ((g s).map (Value.int .i64)).isSome = _
        cases g s <;> rfl)]
      exact (HT.out.belowW HB3.out).mono (by omega)
    case round =>
      obtain ⟨left, cnt, B', hrg, hcl, hT', hMv, hn1, hn2⟩ := hrel
      rcases hrg.next keyed9 0 with ⟨hc0, hl0, hrun⟩ | ⟨key, v0, kl, w2, cnt2, hkey, hlk, hfk, hrun, hrg2, hlt, hgr2, hs2, hen⟩
      · have HTF : Hid (TabIs wr base B' (heldN m id g) (N + L)) := by rw [← heldL_end m id g left hl0]; exact hT'.mono (by omega)
        have HMV := hide hMv
        clear hT' hMv hrg hl0
        go_wp2_with (first
          | (at_next; refine wpList_nextV rfl _ rfl _ _ _ rfl hrun ?_))
        go_ret
        exact ⟨A, B', _, HA.out, by rw [HA0.out]; rfl, HTF.out, HMV.out, by rw [if_pos HA0.out]⟩
      · obtain ⟨s0, rfl, rfl, hs0⟩ := key9_inv hkey
        obtain ⟨md, hgs, rfl⟩ : ∃ md, g s0 = some md ∧ v0 = .int .i64 md := by
          have : (g s0).map (Value.int .i64) = some v0 := hfk
          obtain ⟨md, h1, h2⟩ := Option.map_eq_some_iff.1 this
          exact ⟨md, h1, h2.symm⟩
        have hT2 : TabIs w2 base B' (heldL m id g left) (N + (L - cnt)) := hT'.stay fun k hk => hgr2.block k (hT'.lt hk) (fun e => by
          injection e with e
          subst e
          rcases hk with hk | hk
          · obtain ⟨a, c, d, e, hi⟩ := hrg.isIter
            rw [hk, hT'.cell] at hi
            cases hi
          · exact hn2 hk)
        have HLO : Hid (Calls Try.prog 29 #[.pointer (some ⟨B.t, 0, none⟩), .int .i64 id, scell s0, .int .i64 md] w2 fun e w' => e = .returned (.tuple #[]) ∧ ∃ B'', TabIs w' base B'' (updH (heldL m id g left) id s0 md) (N + (L - cnt) + 1) ∧ Moves B' B'' w2 w') := by
          rw [← hMv.t]
          refine hold_any hT2 (by have := HN.out; omega) hid (HGN.out s0 md hgs) (HGM.out s0 md hgs) (fun hno => ?_)
          obtain ⟨Z, hZ1, hZ2⟩ := HC.out
          refine names_cap hT2 hZ1 (fun s hs => hZ2 s ?_) hno (hZ2 s0 (.inr (by rw [hgs]; simp)))
          unfold heldL at hs
          split at hs
          · cases hgq : g s with
            | none => rw [hgq] at hs; exact .inl (by simpa using hs)
            | some _ => exact .inr (by simp)
          · exact .inl hs
        have hMv2 : Moves B B' w w2 := ⟨hgr2.os.trans hMv.os, hgr2.tape.trans hMv.tape, hgr2.output.trans hMv.output, Nat.le_trans hMv.size hgr2.size, hMv.t, fun k hk hn => (hgr2.block k (Nat.lt_of_lt_of_le hk hMv.size) (by intro e; injection e with e; omega)).trans (hMv.block k hk hn), hMv.own⟩
        have HMV2 := hide hMv2
        have HRG2 := hide hrg2
        have HGS := hide hgs
        have hcO := hrg.left_eq
        have hb2 : bg < w2.heap.size := hrg2.map.lt
        have hR2 : R < w2.heap.size := hrg2.lt
        clear hT' hMv hrg hrg2 hT2 hMv2 hgr2 hfk hkey hlk
        go_wp2_with (first
          | (at_next; refine wpList_nextV rfl _ rfl _ _ _ rfl hrun ?_)
          | (go_at_call 29; refine HLO.out.mono ?_; rintro e w4 ⟨rfl, B4, hT4, hM4⟩; have HT4 := hide hT4; have HM4 := hide hM4; clear hT4 hM4))
        have hrg4 : RngV w4 9 bg R L (intMap g) (fun x => left x && !x.sameKey (.string s0)) cnt2 := HRG2.out.stay (HM4.out.block bg hb2 hn1) (HM4.out.block R hR2 hn2)
        go_roundw
        case rel =>
          refine ⟨_, cnt2, B4, hrg4, by omega, ?_, HMV2.out.trans HM4.out, fun h => ?_, fun h => ?_⟩
          · rw [← heldL_step m id g left s0 md HGS.out]
            exact HT4.out.mono (by omega)
          · rcases HM4.out.own bg h with h | h
            · exact hn1 h
            · omega
          · rcases HM4.out.own R h with h | h
            · exact hn2 h
            · omega
        case measure => rw [hrg4.left_eq, hcO]; exact hlt
set_option maxHeartbeats 1000000 in
theorem ask_anyK {w : World} {base : Nat} {B : Tb} {m : Held} {N : Nat} (hT : TabIs w base B m N) {id : Int} (hid : In64 id) {a : Option Addr} {c : Nat} {l : List (List UInt8 × Int)} (hl : WantsAt w a l) {K : Nat} (hK : ∃ l : List (Int × List UInt8), l.length ≤ K ∧ ∀ x s, m x s ≠ none → (x, s) ∈ l) (hKN : K ≤ 11728124029610) :
    Calls Try.prog 11 #[.pointer (some ⟨B.t, 0, none⟩), .int .i64 id, .slice a l.length c] w fun e w' => ∃ v A, e = .returned v ∧ w'.ownsRow w.heap.size 3 1 v A.length (A.map icell) ∧ Against m (grownF (m id) l) id A ∧ A.length ≤ K ∧ Below w.heap.size w w' := by
  have HGW := hide (grown_any hT hid hl (c := c))
  have HGN : Hid (∀ s md, grownF (m id) l s = some md → NameOk s) := hl.grown_name (m id)
  have HT := hide hT
  have HKK := hide hK
  have HN := hide hKN
  clear hT hK hKN hl
  go_enter Try.func11, Try.ntmps11
  go_wp2_with (first
    | (go_at_call 27; refine HGW.out.mono ?_; rintro e x1 ⟨bg, rfl, hbg, hM1, hB1⟩; have HB1 := hide hB1; have HAG := hide (against_any (HT.out.belowW hB1) HKK.out HN.out hid hM1 HGN.out); clear hM1 hB1)
    | (go_at_call 28; refine HAG.out.mono ?_; rintro e x2 ⟨v2, A, rfl, hr2, hA, hlA, hB2⟩))
  go_ret
  exact ⟨v2, A, rfl, owns_mono hr2 HB1.out.size, hA, hlA, HB1.out.trans (hB2.mono HB1.out.size)⟩
theorem take_any {w : World} {base : Nat} {B : Tb} {m : Held} {N : Nat} (hT : TabIs w base B m N) {id : Int} (hid : In64 id) {a : Option Addr} {c : Nat} {l : List (List UInt8 × Int)} (hl : WantsAt w a l) (hN : N + l.length ≤ 5864062014805) :
    Calls Try.prog 9 #[.pointer (some ⟨B.t, 0, none⟩), .int .i64 id, .slice a l.length c] w fun e w' => ∃ A B' m', Against m (grownF (m id) l) id A ∧ e = .returned (.bool A.isEmpty) ∧ TabIs w' base B' m' (N + l.length) ∧ Moves B B' w w' ∧ m' = if A = [] then heldN m id (grownF (m id) l) else m :=
  take_anyK hT hid hl (by omega) hT.all (by omega) ⟨B.nm id ++ l.map Prod.fst, by have := hT.names_le id; rw [List.length_append, List.length_map]; omega, fun s hs => by
    rw [List.mem_append]
    rcases hs with h | h
    · exact .inl ((hT.names id s).2 h)
    · cases hg : grownF (m id) l s with
      | none => exact absurd hg h
      | some md =>
        obtain ⟨_, x, hx, rfl⟩ := grownF_ok (m id) l s md hg
        exact .inr (List.mem_map.2 ⟨x, hx, rfl⟩)⟩
theorem ask_any {w : World} {base : Nat} {B : Tb} {m : Held} {N : Nat} (hT : TabIs w base B m N) {id : Int} (hid : In64 id) {a : Option Addr} {c : Nat} {l : List (List UInt8 × Int)} (hl : WantsAt w a l) (hN : N ≤ 5864062014805) :
    Calls Try.prog 11 #[.pointer (some ⟨B.t, 0, none⟩), .int .i64 id, .slice a l.length c] w fun e w' => ∃ v A, e = .returned v ∧ w'.ownsRow w.heap.size 3 1 v A.length (A.map icell) ∧ Against m (grownF (m id) l) id A ∧ A.length ≤ N ∧ Below w.heap.size w w' := ask_anyK hT hid hl hT.all (by omega)
/-- A new table. -/
theorem new_any (w : World) : Calls Try.prog 8 #[] w fun e w' => ∃ B, e = .returned (.pointer (some ⟨B.t, 0, none⟩)) ∧ TabIs w' w.heap.size B (fun _ _ => none) 0 ∧ Below w.heap.size w w' := by
  have hmm := @run_makeMap Try.prog
  go_enter Try.func8, Try.ntmps8
  go_wp2
  go_ret
  have h0 : (w.alloc (.map #[] 0)).heap.size = w.heap.size + 1 := by simp
  have h1 : ((w.alloc (.map #[] 0)).alloc (.map #[] 0)).heap.size = w.heap.size + 1 + 1 := by simp
  have b1 : Below w.heap.size w (w.alloc (.map #[] 0)) := (Below.refl _ _).alloc (Nat.le_refl _) _
  have b2 : Below (w.heap.size + 1) (w.alloc (.map #[] 0)) ((w.alloc (.map #[] 0)).alloc (.map #[] 0)) := by rw [← h0]; exact (Below.refl _ _).alloc (Nat.le_refl _) _
  have b3 : Below (w.heap.size + 1 + 1) ((w.alloc (.map #[] 0)).alloc (.map #[] 0)) (((w.alloc (.map #[] 0)).alloc (.map #[] 0)).alloc (.cells #[.map (some w.heap.size), .map (some (w.heap.size + 1))] 56)) := by rw [← h1]; exact (Below.refl _ _).alloc (Nat.le_refl _) _
  refine ⟨⟨w.heap.size + 1 + 1, w.heap.size, w.heap.size + 1, fun _ => none, fun _ => none, fun _ => []⟩, rfl, ?_, (b1.trans (b2.mono (Nat.le_succ _))).trans (b3.mono (by omega))⟩
  exact
  { cell := by
      have := heap_alloc_new ((w.alloc (.map #[] 0)).alloc (.map #[] 0)) (.cells #[.map (some w.heap.size), .map (some (w.heap.size + 1))] 56)
      rw [h1] at this
      exact this
    hon := by
      have := ((MapV.made w 9).stay (b2.block _ (by omega))).stay (b3.block _ (by omega))
      rw [ofS_none] at this
      exact this
    hof := by
      have := (MapV.made (w.alloc (.map #[] 0)) 3)
      rw [h0] at this
      have := this.stay (b3.block _ (by omega))
      rw [ofI_none] at this
      exact this
    inner := fun s b h => by cases h
    non := fun _ _ _ => rfl
    nemp := fun s b h => by cases h
    rows := fun x v h => by cases h
    nrow := fun _ _ => rfl
    nodup := fun _ => List.Pairwise.nil
    names := fun x s => by simp
    good := fun x s h e => by cases e
    inj := fun s s' b h => by cases h
    apart := fun s b h => by cases h
    two := by show w.heap.size ≠ w.heap.size + 1; omega
    rapart := fun x y v v' g h => by cases h
    low := ⟨by show w.heap.size ≤ w.heap.size + 1 + 1; omega, Nat.le_refl _, by show w.heap.size ≤ w.heap.size + 1; omega, fun s b h => by cases h⟩
    all := ⟨[], by simp, fun x s h => absurd rfl h⟩ }
end Go.Proofs.Ytffjdjbjkjefoaa
