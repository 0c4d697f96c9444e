/- The document's table. -/
import Derived.Test.YtffjdjbjkjefoaaRpu
import Derived.Test.YtffjdjbjkjefoaaHlr
namespace Go.Proofs.Ytffjdjbjkjefoaa
open Go.RowKit Go.WideAt
set_option linter.unusedVariables false
set_option linter.unusedSimpArgs false

/-- Who, on what, which mode. -/
abbrev Ht := Int × List UInt8 × Int
def encH (h : Ht) : List Value := [.int .i64 h.1, scell h.2.1, .int .i64 h.2.2]
def flatH (hs : List Ht) : List Value := hs.flatMap encH
theorem flatH_at : ∀ (L : List Ht) (i : Nat) (x : Ht), L[i]? = some x → (flatH L)[i * 3]? = some (.int .i64 x.1) ∧ (flatH L)[i * 3 + 1]? = some (scell x.2.1) ∧ (flatH L)[i * 3 + 2]? = some (.int .i64 x.2.2)
  | [], i, x, h => by simp at h
  | y :: L, 0, x, h => by
    simp at h
    subst h
    exact ⟨rfl, rfl, rfl⟩
  | y :: L, i + 1, x, h => by
    have h' : L[i]? = some x := by simpa using h
    obtain ⟨h1, h2, h3⟩ := flatH_at L i x h'
    have e : flatH (y :: L) = .int .i64 y.1 :: scell y.2.1 :: .int .i64 y.2.2 :: flatH L := rfl
    rw [e, show (i + 1) * 3 = i * 3 + 1 + 1 + 1 by omega]
    exact ⟨by simpa using h1, by simpa using h2, by simpa using h3⟩
theorem flatH_len (L : List Ht) : (flatH L).length = L.length * 3 := by
  induction L with
  | nil => rfl
  | cons x L ih =>
    show (encH x ++ flatH L).length = _
    rw [List.length_append, ih]
    simp [encH]
    omega
/-- Where it lies. -/
structure RtAt (w : World) (base rt : Nat) (v : Value) (hs : List Ht) : Prop where
  cell : w.heap[rt]? = some (.cells #[v] 41 (0, 0))
  low : base ≤ rt
  own : w.ownsRow base 81 3 v hs.length (flatH hs)
theorem RtAt.belowW {w w' : World} {base rt : Nat} {v : Value} {hs : List Ht} (h : RtAt w base rt v hs) (hb : Below w.heap.size w w') : RtAt w' base rt v hs :=
  ⟨(hb.block rt (lt_of_heap h.cell)).trans h.cell, h.low, owns_below h.own hb (Nat.le_refl _)⟩
theorem RtAt.cell0 {w : World} {base rt : Nat} {v : Value} {hs : List Ht} (h : RtAt w base rt v hs) : w.cell? ⟨rt, 0, none⟩ = some v := by rw [cell_row h.cell]; rfl
theorem RtAt.get {w : World} {base rt : Nat} {v : Value} {hs : List Ht} (h : RtAt w base rt v hs) {i : Nat} {x : Ht} (hx : hs[i]? = some x) : ∃ g c, v = .slice (some ⟨g, 0, none⟩) hs.length c ∧ w.cell? ⟨g, i * 3, none⟩ = some (.int .i64 x.1) ∧ w.cell? ⟨g, i * 3 + 1, none⟩ = some (scell x.2.1) ∧ w.cell? ⟨g, i * 3 + 2, none⟩ = some (.int .i64 x.2.2) := by
  obtain ⟨ao, c, e, h1, h2, h3⟩ := Row.of_owns h.own
  obtain ⟨p, q, r⟩ := flatH_at hs i x hx
  obtain ⟨g, o, ea, hr⟩ := h3 (fun h0 => by rw [h0] at p; simp at p)
  subst ea
  rcases own_of h.own with ⟨e', _, _⟩ | ⟨g', cap, cur, e', _⟩
  · rw [e'] at e; cases e
  · rw [e'] at e
    injection e with e1 e2 e3
    injection e1 with e1
    injection e1 with e1 e4
    subst e1 e4
    have a := hr _ _ p
    have b := hr _ _ q
    have d := hr _ _ r
    rw [Nat.zero_add] at a b d
    exact ⟨_, _, e', a, b, d⟩
/-- What the document's table tells of one name of one transaction: the first that is there. -/
def modeL : List Ht → Int → List UInt8 → Int
  | [], _, _ => 0
  | h :: r, id, s => if h.1 = id ∧ h.2.1 = s then h.2.2 else modeL r id s
theorem modeL_drop {hs : List Ht} {k : Nat} {x : Ht} (hx : hs[k]? = some x) (id : Int) (s : List UInt8) : modeL (hs.drop k) id s = if x.1 = id ∧ x.2.1 = s then x.2.2 else modeL (hs.drop (k + 1)) id s := by
  obtain ⟨hl, rfl⟩ := List.getElem?_eq_some_iff.1 hx
  rw [List.drop_eq_getElem_cons hl]
  rfl
theorem run_index39 (w : World) (g n cap i : Nat) (h : i < n) : (Instr.indexAt 39 (.slice (some ⟨g, 0, none⟩) n cap) (.int .i64 (i : Int))).run Try.prog w = .ok (.pointer (some ⟨g, i * 3, none⟩)) w := by
  have hu := Try.underlying39
  have hs := Try.sizeOf81
  simp [go_sem, hu, hs, h]
set_option maxRecDepth 100000 in
set_option maxHeartbeats 1000000 in
theorem tmode_any {w : World} {base rt : Nat} {v : Value} {hs : List Ht} (h : RtAt w base rt v hs) (hl : hs.length ≤ 1000000000000) (id : Int) (s : List UInt8) :
    Calls Try.prog 49 #[.pointer (some ⟨rt, 0, none⟩), .int .i64 id, scell s] w fun e w' => e = .returned (.int .i64 (modeL hs id s)) ∧ w' = w := by
  obtain ⟨ao, c, rfl⟩ := owns_len h.own
  have HR := hide h
  have c0 := h.cell0
  have hlt := lt_of_heap h.cell
  clear h
  obtain ⟨n, hn⟩ : ∃ n, hs.length = n := ⟨_, rfl⟩
  have HN := hide hn
  rw [hn] at hl c0
  have HC : Hid (∀ i x, hs[i]? = some x → ∃ g, ao = some ⟨g, 0, none⟩ ∧ w.cell? ⟨g, i * 3, none⟩ = some (.int .i64 x.1) ∧ w.cell? ⟨g, i * 3 + 1, none⟩ = some (scell x.2.1) ∧ w.cell? ⟨g, i * 3 + 2, none⟩ = some (.int .i64 x.2.2)) := fun i x hx => by
    obtain ⟨g, c', e, h1⟩ := HR.out.get hx
    injection e with e1
    exact ⟨g, e1, h1⟩
  clear hn HR
  go_enter Try.func49, Try.ntmps49
  go_upto_region 2 with fail
  go_loop [7] (fun i => ∃ k : Nat, k ≤ n ∧ i = .int .i64 (k : Int) ∧ Hid (modeL (hs.drop k) id s = modeL hs id s)) (fun i => n - (intOf i).toNat)
  case atStart => exact ⟨0, by omega, rfl, rfl⟩
  case round =>
    obtain ⟨k, hk, rfl, hm⟩ := hrel
    by_cases hlt' : k < n
    · obtain ⟨x, hx⟩ : ∃ x, hs[k]? = some x := ⟨_, List.getElem?_eq_getElem (by rw [HN.out]; exact hlt')⟩
      obtain ⟨g, hao, c1, c2, c3⟩ := HC.out k x hx
      subst hao
      have HM := hide (modeL_drop hx id s)
      clear hx
      obtain ⟨y, t, q⟩ := x
      have hbs := beq_str t s
      by_cases hy : y = id
      · have hy' : (y == id) = true := by simp [hy]
        by_cases ht : t = s
        · rw [decide_eq_true ht] at hbs
          go_wp2
          go_ret
          exact ⟨by rw [← hm.out, HM.out, if_pos ⟨hy, ht⟩]; rfl, rfl⟩
        · rw [decide_eq_false ht] at hbs
          go_wp2
          refine ⟨⟨k + 1, by omega, by go_num, by show _ = _; rw [← hm.out, HM.out, if_neg (fun e => ht e.2)]⟩, ?_⟩
          simp [intOf]
          omega
      · have hy' : (y == id) = false := beq_eq_false_iff_ne.2 hy
        go_wp2
        refine ⟨⟨k + 1, by omega, by go_num, by show _ = _; rw [← hm.out, HM.out, if_neg (fun e => hy e.1)]⟩, ?_⟩
        simp [intOf]
        omega
    · obtain rfl : k = n := by omega
      have hd : hs.drop k = [] := List.drop_of_length_le (by rw [HN.out]; exact Nat.le_refl _)
      rw [hd] at hm
      go_wp2
      go_ret
      exact ⟨by rw [← hm.out]; rfl, rfl⟩
end Go.Proofs.Ytffjdjbjkjefoaa
