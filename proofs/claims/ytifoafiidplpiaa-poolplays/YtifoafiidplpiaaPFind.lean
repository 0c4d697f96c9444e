/- find, Has, Writes, bytes.Clone, New. -/
import Derived.Test.YtifoafiidplpiaaPRep
namespace Go.Proofs.Ytifoafiidplpiaa
open Go.RowKit
set_option linter.unusedVariables false
set_option linter.unusedSimpArgs false

def Fm.is (n : Int) (f : Fm) : Bool := f.held && f.page == n
def Pl.find {σ : Type} (S : Pl σ) (n : Int) : Option Nat := S.fs.findIdx? (Fm.is n)
def frAt (G : Nat) : Option Nat → Option Addr
  | some i => some ⟨G, i * 7, none⟩
  | none => none
section
variable {Φ : Force} {w0 w w' : World} {P G q p n : Nat} {xs bl ff : List Nat} {vs : List Value} {S : Pl Φ.σ} {D D' : Dv}
theorem PoolIs.cells (h : PoolIs Φ w0 w P G q p n xs bl ff vs S D) (i : Nat) (f : Fm) (hi : S.fs[i]? = some f) : ∃ v, vs[i]? = some v ∧ BytesOk w bl f v ∧ i < S.fs.length ∧ w.cell? ⟨G, i * 7, none⟩ = some (.bool f.held) ∧ w.cell? ⟨G, i * 7 + 1, none⟩ = some (.int .i64 f.page) ∧
    w.cell? ⟨G, i * 7 + 2, none⟩ = some v ∧ w.cell? ⟨G, i * 7 + 3, none⟩ = some (.bool f.asked) ∧ w.cell? ⟨G, i * 7 + 4, none⟩ = some (.bool f.dirty) ∧ w.cell? ⟨G, i * 7 + 5, none⟩ = some (.int .i64 f.rlsn) ∧ w.cell? ⟨G, i * 7 + 6, none⟩ = some (.int .i64 f.lsn) := by
  obtain ⟨v, h1, h2, h3, h4⟩ := h.cell i f hi
  exact ⟨v, h1, h2, h3, h4 0 (by omega), h4 1 (by omega), h4 2 (by omega), h4 3 (by omega), h4 4 (by omega), h4 5 (by omega), h4 6 (by omega)⟩
theorem findIdx_yes {α : Type} (pr : α → Bool) (l : List α) (k : Nat) (x : α) (hk : l[k]? = some x) (hx : pr x = true) (hj : ∀ j y, j < k → l[j]? = some y → pr y = false) : l.findIdx? pr = some k := by
  obtain ⟨hlt, rfl⟩ := List.getElem?_eq_some_iff.1 hk
  rw [List.findIdx?_eq_some_iff_getElem]
  exact ⟨hlt, hx, fun j hj' => by rw [hj j _ hj' (List.getElem?_eq_getElem (by omega))]; simp⟩
theorem findIdx_no {α : Type} (pr : α → Bool) (l : List α) (hj : ∀ (j : Nat) y, l[j]? = some y → pr y = false) : l.findIdx? pr = none := by
  rw [List.findIdx?_eq_none_iff]
  intro x hx
  obtain ⟨j, hj'⟩ := List.mem_iff_getElem?.1 hx
  exact hj j x hj'

set_option maxHeartbeats 400000 in
set_option maxRecDepth 100000 in
theorem find_any (h : PoolIs Φ w0 w P G q p n xs bl ff vs S D) (m : Int) :
    Calls Try.prog 29 #[.pointer (some ⟨P, 0, none⟩), .int .i64 m] w fun e w' => e = .returned (.pointer (frAt G (S.find m))) ∧ w' = w := by
  have c2 := h.c2
  have hm64 := h.f2
  have H := hide h
  clear h
  go_enter Try.func29, Try.ntmps29
  go_wp2
  go_loopw [12] (fun i wr => ∃ k : Nat, k ≤ S.fs.length ∧ i = .int .i64 k ∧ (∀ (j : Nat) y, j < k → S.fs[j]? = some y → Fm.is m y = false) ∧ wr = w) (fun i _ => S.fs.length - (intOf i).toNat)
  case atStart => exact ⟨0, by omega, rfl, fun j y hj => by omega, rfl⟩
  case round =>
    obtain ⟨k, hk, rfl, hno, rfl⟩ := hrel
    have HNO := hide hno
    clear hno
    by_cases hlt : k < S.fs.length
    · obtain ⟨f, hf⟩ : ∃ f, S.fs[k]? = some f := ⟨_, List.getElem?_eq_getElem hlt⟩
      obtain ⟨v, hv, hB, _, d0, d1, d2, d3, d4, d5, d6⟩ := H.out.cells k f hf
      clear d2 d3 d4 d5 d6 hB hv
      have HF := hide hf
      clear hf
      obtain ⟨N, hN⟩ : ∃ N, S.fs.length = N := ⟨_, rfl⟩
      rw [hN] at hlt hk c2 hm64
      have HN := hide hN
      clear hN
      by_cases hh : f.held = true
      · by_cases hp : f.page = m
        · rw [hh] at d0
          rw [hp] at d1
          have HR : Hid (S.find m = some k) := findIdx_yes _ _ k f HF.out (by simp [Fm.is, hh, hp]) HNO.out
          go_wp2
          go_ret
          rw [HR.out]
          exact ⟨rfl, rfl⟩
        · rw [hh] at d0
          have hpb : (f.page == m) = false := beq_eq_false_iff_ne.2 hp
          have HX : Hid (Fm.is m f = false) := by show _ = _; simp [Fm.is, hpb]
          generalize f.page = pg at *
          go_wp2
          go_roundw
          case rel =>
            refine ⟨k + 1, by rw [HN.out]; omega, by go_num, fun j y hj hy => ?_, by first | rfl | trivial⟩
            by_cases e : j = k
            · subst e; rw [HF.out] at hy; cases hy; exact HX.out
            · exact HNO.out j y (by omega) hy
          case measure => rw [HN.out]; simp [intOf]; omega
      · have hh' : f.held = false := by simpa using hh
        rw [hh'] at d0
        have HX : Hid (Fm.is m f = false) := by show _ = _; simp [Fm.is, hh']
        clear d1
        go_wp2
        go_roundw
        case rel =>
          refine ⟨k + 1, by rw [HN.out]; omega, by go_num, fun j y hj hy => ?_, by first | rfl | trivial⟩
          by_cases e : j = k
          · subst e; rw [HF.out] at hy; cases hy; exact HX.out
          · exact HNO.out j y (by omega) hy
        case measure => rw [HN.out]; simp [intOf]; omega
    · have hk' : k = S.fs.length := by omega
      have HR : Hid (S.find m = none) := findIdx_no _ _ (fun j y hy => HNO.out j y (by have := (List.getElem?_eq_some_iff.1 hy).1; omega) hy)
      go_wp2
      go_ret
      rw [HR.out]
      exact ⟨rfl, rfl⟩
theorem has_any (h : PoolIs Φ w0 w P G q p n xs bl ff vs S D) (m : Int) :
    Calls Try.prog 25 #[.pointer (some ⟨P, 0, none⟩), .int .i64 m] w fun e w' => e = .returned (.bool (S.find m).isSome) ∧ w' = w := by
  have hcon := find_any h m
  cases hf : S.find m with
  | none =>
    rw [hf] at hcon
    have hcon : Calls Try.prog 29 #[.pointer (some ⟨P, 0, none⟩), .int .i64 m] w fun e w' => e = .returned (.pointer none) ∧ w' = w := hcon
    go_enter Try.func25, Try.ntmps25
    go_wp2_with (go_at_call 29; refine hcon.mono ?_; rintro e w' ⟨rfl, rfl⟩)
    go_ret
    exact ⟨rfl, rfl⟩
  | some i =>
    rw [hf] at hcon
    have hcon : Calls Try.prog 29 #[.pointer (some ⟨P, 0, none⟩), .int .i64 m] w fun e w' => e = .returned (.pointer (some ⟨G, i * 7, none⟩)) ∧ w' = w := hcon
    go_enter Try.func25, Try.ntmps25
    go_wp2_with (go_at_call 29; refine hcon.mono ?_; rintro e w' ⟨rfl, rfl⟩)
    go_ret
    exact ⟨rfl, rfl⟩
theorem writes_any (h : PoolIs Φ w0 w P G q p n xs bl ff vs S D) : Calls Try.prog 15 #[.pointer (some ⟨P, 0, none⟩)] w fun e w' => e = .returned (.int .i64 (S.wr : Int)) ∧ w' = w := by
  have c4 := h.c4
  go_enter Try.func15, Try.ntmps15
  go_wp2
  go_ret
  exact ⟨rfl, rfl⟩
end
end Go.Proofs.Ytifoafiidplpiaa
