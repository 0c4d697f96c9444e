/- lsns: a function that tells pages' LSNs. -/
import Derived.Test.YtpjppolbkdnkaaaDowns
namespace Go.Proofs.Ytpjppolbkdnkaaa
open Go.RowKit
set_option linter.unusedVariables false
set_option linter.unusedSimpArgs false

theorem own_some {w : World} {base : Nat} {e : TypeId} {size : Nat} {v : Value} {n : Nat} {xs : List Value} (h : w.ownsRow base e size v n xs) (hn : n ≠ 0) : ∃ g cap cur, v = .slice (some ⟨g, 0, none⟩) n cap ∧ base ≤ g ∧ w.heap[g]? = some (.cells cur e (0, 0)) ∧ n ≤ cap ∧ cap ≤ maxLen ∧ cur.size = cap * size ∧ cur.toList.take (n * size) = xs := by
  rcases h.2 with ⟨_, h0⟩ | h'
  · exact absurd h0 hn
  · exact h'
/-- A slice of ints. -/
def IntsAt (w : World) (a : Option Addr) (l : List Int) : Prop := l.length ≤ 1000000 ∧ ∀ (i : Nat) (v : Int), l[i]? = some v → In64 v ∧ ∃ b o, a = some ⟨b, o, none⟩ ∧ b < w.heap.size ∧ w.cell? ⟨b, o + i, none⟩ = some (.int .i64 v)
theorem IntsAt.below {w w' : World} {a : Option Addr} {l : List Int} (h : IntsAt w a l) (hb : Below w.heap.size w w') : IntsAt w' a l :=
  ⟨h.1, fun i v hv => by
    obtain ⟨h0, b, o, h1, h2, h3⟩ := h.2 i v hv
    exact ⟨h0, b, o, h1, Nat.lt_of_lt_of_le h2 hb.size, (hb.cell (p := ⟨b, o + i, none⟩) h2).trans h3⟩⟩
def pageLsn (l : List Int) (p : Int) : Int := if p < 0 then 0 else (l[p.toNat]?).getD 0
structure LsnsAt (w : World) (B : Nat) (a : Option Addr) (c : Nat) (l : List Int) : Prop where
  box : w.heap[B]? = some (.cells #[.slice a l.length c] 49 (0, 0))
  ints : IntsAt w a l
set_option maxHeartbeats 1000000 in
set_option maxRecDepth 100000 in
theorem lsn1_any (w : World) (B : Nat) (a : Option Addr) (c : Nat) (l : List Int) (p : Int) (h : LsnsAt w B a c l) (hp : In64 p) :
    Calls Try.prog 36 #[.int .i64 p, .pointer (some ⟨B, 0, none⟩)] w fun e w' => e = .returned (.int .i64 (pageLsn l p)) ∧ Below w.heap.size w w' := by
  have c0 : w.cell? ⟨B, 0, none⟩ = some (.slice a l.length c) := by rw [cell_of_row _ _ _ _ _ _ h.box]; rfl
  have HI := hide h.ints.2
  have hl := h.ints.1
  obtain ⟨n, hn⟩ : ∃ n, l.length = n := ⟨_, rfl⟩
  have HN := hide hn
  rw [hn] at c0 hl
  clear hn h
  obtain ⟨r, hr⟩ : ∃ r, pageLsn l p = r := ⟨_, rfl⟩
  rw [hr]
  unfold pageLsn at hr
  by_cases h0 : p < 0
  · rw [if_pos h0] at hr
    subst hr
    have hd : decide (p < 0) = true := decide_eq_true h0
    go_enter Try.func36, Try.ntmps36
    go_wp2
    go_ret
    exact ⟨rfl, Below.refl _ _⟩
  · rw [if_neg h0] at hr
    obtain ⟨k, rfl⟩ : ∃ k : Nat, p = (k : Int) := ⟨p.toNat, by omega⟩
    rw [Int.toNat_natCast] at hr
    have hd : decide ((k : Int) < 0) = false := decide_eq_false h0
    by_cases hk : k < n
    · obtain ⟨v, hv⟩ : ∃ v, l[k]? = some v := ⟨_, List.getElem?_eq_getElem (by rw [HN.out]; exact hk)⟩
      obtain ⟨hv64, b, o, rfl, hbl, hcell⟩ := HI.out k v hv
      rw [hv] at hr
      simp only [Option.getD_some] at hr
      subst hr
      clear hv h0
      go_enter Try.func36, Try.ntmps36
      go_wp2
      go_ret
      exact ⟨rfl, Below.refl _ _⟩
    · rw [List.getElem?_eq_none (by rw [HN.out]; omega)] at hr
      simp only [Option.getD_none] at hr
      subst hr
      clear h0
      go_enter Try.func36, Try.ntmps36
      go_wp2
      go_ret
      exact ⟨rfl, Below.refl _ _⟩
theorem lsns_any (w : World) (a : Option Addr) (n c : Nat) : Calls Try.prog 17 #[.slice a n c] w fun e w' => e = .returned (.func (.func 36) #[] #[.pointer (some ⟨w.heap.size, 0, none⟩)]) ∧ w' = w.alloc (.cells #[.slice a n c] 49) := by
  go_enter Try.func17, Try.ntmps17
  go_wp2
  go_ret
  exact ⟨rfl, rfl⟩
def askLsns (B : Nat) (a : Option Addr) (c : Nat) (l : List Int) (hin : ∀ v ∈ l, In64 v) : Ask where
  g := 36
  cb := #[.pointer (some ⟨B, 0, none⟩)]
  f := pageLsn l
  held := fun w => LsnsAt w B a c l
  stay := fun w w' h hb => ⟨(hb.block B (Array.getElem?_eq_some_iff.1 h.box).1).trans h.box, h.ints.below hb⟩
  enters := fun args w => by kernel_rfl
  fin := fun p => by
    unfold pageLsn
    split
    · simp [In64]
    · cases hv : l[p.toNat]? with
      | none => simp [In64]
      | some v => exact hin v (List.mem_of_getElem? hv)
  call := fun w p h hp => lsn1_any w B a c l p h hp
end Go.Proofs.Ytpjppolbkdnkaaa
