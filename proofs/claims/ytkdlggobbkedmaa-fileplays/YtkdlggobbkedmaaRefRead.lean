/- What the document's Read does. -/
import Derived.Test.YtkdlggobbkedmaaRefWrite
namespace Go.Proofs.Ytkdlggobbkedmaa
open Go.RowKit
set_option linter.unusedVariables false
set_option linter.unusedSimpArgs false

/-- The newest bytes among the first k writes. -/
def Dv.scan (D : Dv) (i k : Nat) : List UInt8 :=
  match (D.W.take k).reverse.find? (fun x => x.1 == i) with
  | some x => x.2
  | none => D.L.getD i []
theorem scan_zero (D : Dv) (i : Nat) (hi : i < D.L.length) : D.scan i 0 = D.L[i] := by
  simp [Dv.scan, hi]
theorem scan_all (D : Dv) (i : Nat) : D.scan i D.W.length = D.newest i := by
  unfold Dv.scan Dv.newest
  rw [List.take_length]
  rfl
theorem scan_hit (D : Dv) (i k : Nat) (hk : k < D.W.length) (h : D.W[k].1 = i) : D.scan i (k + 1) = D.W[k].2 := by
  unfold Dv.scan
  rw [List.take_succ_eq_append_getElem hk, List.reverse_append, List.reverse_singleton, List.singleton_append, List.find?_cons]
  simp [h]
theorem scan_miss (D : Dv) (i k : Nat) (hk : k < D.W.length) (h : D.W[k].1 ≠ i) : D.scan i (k + 1) = D.scan i k := by
  have hb : (D.W[k].1 == i) = false := by simpa using h
  have : (D.W.take (k + 1)).reverse.find? (fun x => x.1 == i) = (D.W.take k).reverse.find? (fun x => x.1 == i) := by
    rw [List.take_succ_eq_append_getElem hk, List.reverse_append, List.reverse_singleton, List.singleton_append, List.find?_cons, hb]
  unfold Dv.scan
  rw [this]

set_option maxHeartbeats 400000 in
theorem rread_dead (p : Nat) (i : Int) (w : World) (fp : List Nat) (D : Dv) (h : RefAt w p fp D) (hd : D.dead = true) :
    Calls Try.prog 33 #[.pointer (some ⟨p, 0, none⟩), .int .i64 i] w fun e w' => e = .returned (.tuple #[.string (strOf []), .int .i64 50]) ∧ w' = w := by
  obtain ⟨lv, cv, h⟩ := h
  have k3 := h.c3
  rw [hd] at k3
  go_enter Try.func33, Try.ntmps33
  go_wp2
  go_ret2
  exact ⟨rfl, rfl⟩

set_option maxHeartbeats 400000 in
theorem rread_arg (p : Nat) (i : Int) (w : World) (fp : List Nat) (D : Dv) (h : RefAt w p fp D) (hd : D.dead = false) (hi : i < 0 ∨ (D.L.length : Int) ≤ i) :
    Calls Try.prog 33 #[.pointer (some ⟨p, 0, none⟩), .int .i64 i] w fun e w' => e = .returned (.tuple #[.string (strOf []), .int .i64 1]) ∧ w' = w := by
  obtain ⟨lv, cv, h⟩ := h
  obtain ⟨lo, lc, hlv⟩ := own_len h.row
  subst hlv
  have k3 := h.c3
  have k0 := h.c0
  rw [hd] at k3
  by_cases h1 : i < 0
  · clear hi hd
    go_enter Try.func33, Try.ntmps33
    go_wp2
    go_ret2
    exact ⟨rfl, rfl⟩
  · have h2 : (D.L.length : Int) ≤ i := by omega
    clear hi hd
    go_enter Try.func33, Try.ntmps33
    go_wp2
    go_ret2
    exact ⟨rfl, rfl⟩

set_option maxHeartbeats 1000000 in
set_option maxRecDepth 100000 in
theorem rread_ok (p i : Nat) (w : World) (fp : List Nat) (D : Dv) (h : RefAt w p fp D) (hd : D.dead = false) (hi : i < D.L.length) (hm : D.W.length < 1000000) :
    Calls Try.prog 33 #[.pointer (some ⟨p, 0, none⟩), .int .i64 (i : Int)] w fun e w' => e = .returned (.tuple #[.string (strOf (D.newest i)), .int .i64 0]) ∧ RefAt w' p fp { D with calls := wrap64 (D.calls + 1) } ∧ Off fp w w' := by
  obtain ⟨lv, cv, h⟩ := h
  obtain ⟨lb, lc, hlv⟩ := h.formL (by omega)
  subst hlv
  obtain ⟨co, cc, hcv⟩ := own_len h.cache
  subst hcv
  have k3 := h.c3
  have k0 := h.c0
  have k1 := h.c1
  have k4 := h.c4
  have f4 := h.fz 4
  rw [hd] at k3
  have hl := h.strAt i hi
  have HS0 := hide (scan_zero D i hi)
  rw [← HS0.out] at hl
  have h2' : decide ((D.L.length : Int) ≤ (i : Int)) = false := by simpa using hi
  have h1 := h.heads 4 (.int .i64 (wrap64 (D.calls + 1))) { D with calls := wrap64 (D.calls + 1) } rfl rfl rfl
  clear hd
  go_enter Try.func33, Try.ntmps33
  go_wp2
  go_loop [6, 7] (fun s t => ∃ k : Nat, k ≤ D.W.length ∧ t = .int .i64 k ∧ s = .string (strOf (D.scan i k))) (fun _ t => D.W.length - (intOf t).toNat)
  case atStart => exact ⟨0, Nat.zero_le _, rfl, rfl⟩
  case round =>
    obtain ⟨k, hk, rfl, rfl⟩ := hrel
    by_cases hlt : k < D.W.length
    · obtain ⟨cb, c2, hcb⟩ : ∃ cb c2, (Value.slice co D.W.length cc) = .slice (some ⟨cb, 0, none⟩) D.W.length c2 := by
        rcases h.formC with ⟨_, hW⟩ | ⟨cb, c, hc⟩
        · rw [hW] at hlt; simp at hlt
        · exact ⟨cb, c, hc⟩
      injection hcb with e1 e2 e3
      subst e1
      obtain ⟨c0, c1⟩ := h.entAt k hlt
      by_cases hat : D.W[k].1 = i
      · have HA := hide (scan_hit D i k hlt hat)
        have hat' : (((D.W[k].1 : Nat) : Int) == (i : Int)) = true := by simp [hat]
        clear hat
        go_wp2
        go_round
        case rel => exact ⟨k + 1, by omega, by go_num, by rw [HA.out]⟩
        case measure => simp [intOf]; omega
      · have HA := hide (scan_miss D i k hlt hat)
        have hat' : (((D.W[k].1 : Nat) : Int) == (i : Int)) = false := beq_eq_false_iff_ne.2 (by omega)
        clear hat
        go_wp2
        go_round
        case rel => exact ⟨k + 1, by omega, by go_num, by rw [HA.out]⟩
        case measure => simp [intOf]; omega
    · have hkn : k = D.W.length := by omega
      have HA : Hid (D.scan i k = D.newest i) := by show _ = _; rw [hkn]; exact scan_all D i
      clear hkn
      go_wp2
      go_ret2
      rw [HA.out]
      exact ⟨rfl, ⟨_, _, h1⟩, (Off.refl fp w).setCell _ _ (.inl h.inP)⟩

/-- What the document's Read hands back. -/
def saidOf (o : Option (List UInt8)) : List UInt8 := o.getD []
theorem rread_dev (p : Nat) (i : Int) (w : World) (fp : List Nat) (D : Dv) (h : RefAt w p fp D) (hm : D.W.length < 1000000) :
    Calls Try.prog 33 #[.pointer (some ⟨p, 0, none⟩), .int .i64 i] w fun e w' => e = .returned (.tuple #[.string (strOf (saidOf (D.read i).1)), .int .i64 (D.read i).2.1]) ∧ RefAt w' p fp (D.read i).2.2 ∧ Off fp w w' := by
  unfold Dv.read
  by_cases hd : D.dead = true
  · simp only [hd, if_true]
    refine (rread_dead p i w fp D h hd).mono ?_
    rintro e w' ⟨rfl, rfl⟩
    exact ⟨rfl, h, Off.refl _ _⟩
  · have hd' : D.dead = false := by simpa using hd
    rw [if_neg hd]
    by_cases ha : i < 0 ∨ (D.L.length : Int) ≤ i
    · rw [if_pos ha]
      refine (rread_arg p i w fp D h hd' ha).mono ?_
      rintro e w' ⟨rfl, rfl⟩
      exact ⟨rfl, h, Off.refl _ _⟩
    · rw [if_neg ha]
      obtain ⟨n, rfl⟩ : ∃ n : Nat, i = n := ⟨i.toNat, by omega⟩
      exact rread_ok p n w fp D h hd' (by omega) hm
end Go.Proofs.Ytkdlggobbkedmaa
