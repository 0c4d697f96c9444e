/- The law of Open, on a device that is well. -/
import Derived.Test.YtkkmkcobmjdblaaRFind
namespace Go.Proofs.Ytkkmkcobmjdblaa
open Go.RowKit
set_option linter.unusedVariables false
set_option linter.unusedSimpArgs false

def found (D : Dv) (fr n start : Nat) : List UInt8 := scan (fun s => D.newest (fr + s % n)) (start / 118) n (start % 118)
def Rg.opened (D : Dv) (fr n start : Nat) : Rg := ⟨fr, n, start, start + (found D fr n start).length, found D fr n start, false⟩
theorem found_le (D : Dv) (hD : D.wf) (fr n start : Nat) (h2 : 2 ≤ n) (hn : fr + n ≤ D.L.length) : (found D fr n start).length ≤ n * 118 :=
  scan_le _ (fun s => length_newest D hD _ (by have := Nat.mod_lt s (show n > 0 by omega); omega)) _ _ _
theorem Rg.opened_wf (D : Dv) (hD : D.wf) (fr n start : Nat) (h2 : 2 ≤ n) (h8 : n ≤ 8192) (hn : fr + n ≤ D.L.length) (hs : start ≤ 1099511627776) : (Rg.opened D fr n start).wf := by
  have := found_le D hD fr n start h2 hn
  have := hD.max
  refine ⟨h2, h8, by show fr ≤ _; omega, by show start ≤ _; omega, by show (found D fr n start).length ≤ _; omega, by show start ≤ start + _; omega, Nat.le_refl _⟩

set_option maxHeartbeats 1000000 in
set_option maxRecDepth 100000 in
theorem open_ok {w : World} {p : Nat} {fp : List Nat} {D : Dv} (fr n start : Nat) (hD : DevC w p fp D) (live : D.dead = false) (hn : fr + n ≤ D.L.length) (hm : D.W.length < 1000000) (h2 : 2 ≤ n) (h8 : n ≤ 8192) (hs : start ≤ 1099511627776) :
    Calls Try.prog 9 #[.pointer (some ⟨p, 0, none⟩), .int .i64 (fr : Int), .int .i64 (n : Int), .int .i64 (start : Int)] w fun e w' => ∃ gp, e = .returned (.tuple #[.pointer (some ⟨w.heap.size, 0, none⟩), .int .i64 0]) ∧
      RgAt w' w.heap.size p gp (Rg.opened D fr n start) ∧ DevC w' p fp D ∧ Off fp w w' ∧ (∀ k ∈ gp, w.heap.size ≤ k) ∧ (∀ k ∈ gp, k ∉ fp) := by
  have HS := hide (size_c hD)
  have hmax := hD.wf.max
  have HWF := hide (Rg.opened_wf D hD.wf fr n start h2 h8 hn hs)
  have HLIM := hide hD.lim
  have HNOT := hide hD.notin
  have HFI := hide (fun (W : World) (hb : Below w.heap.size w W) (hh : W.heap[w.heap.size]? = some (.cells #[.pointer (some ⟨p, 0, none⟩), .int .i64 fr, .int .i64 n, .int .i64 start, .int .i64 0, .slice none 0 0, .bool false] 74 (0, 0))) =>
    find_ok (w := W) (q := w.heap.size) (p := p) (gp := [w.heap.size]) (fp := fp) (R := ⟨fr, n, start, 0, [], false⟩) (D := D) ⟨hh, .inl ⟨rfl, rfl⟩, by simp [Value.ownBlock], by simp, fun k hk => by simp [Value.ownBlock] at hk, fun k hk => by simp at hk; rw [hk]; exact (Array.getElem?_eq_some_iff.1 hh).1⟩ rfl (hD.below hb)
      (fun k hk hm => by simp at hk; rw [hk] at hm; exact hD.notin hm) live hn hm h2 h8 (by show fr ≤ _; omega) hs)
  have d1 : decide ((n : Int) < 2) = false := by simp; omega
  have d2 : decide ((8192 : Int) < (n : Int)) = false := by simp; omega
  have d3 : decide ((fr : Int) < 0) = false := by simp
  have d4 : decide ((D.L.length : Int) - (n : Int) < (fr : Int)) = false := by simp; omega
  have d5 : decide ((start : Int) < 0) = false := by simp
  have d6 : decide ((1099511627776 : Int) < (start : Int)) = false := by simp; omega
  clear hD live hm
  go_enter Try.func9, Try.ntmps9
  go_wp2_with (first | (go_at_call 34; refine HS.out.mono ?_; rintro e w' ⟨rfl, hw⟩; have hw := hw.symm; subst hw))
  refine (HFI.out _ ((Below.refl _ _).alloc (Nat.le_refl _) _) (heap_alloc_new _ _)).mono ?_
  rintro e w3 ⟨rfl, gp3, hv3, hR3, hD3, hO3, hG3⟩
  have HR3 := hide hR3
  have HD3 := hide hD3
  have HO3 := hide hO3
  have HG3 := hide hG3
  clear hR3 hD3 hO3 hG3 HFI
  go_wp2
  go_ret2
  have hge : ∀ k ∈ gp3, w.heap.size ≤ k := fun k hk => by
    rcases HG3.out k hk with h1 | h1
    · simp at h1; omega
    · simp at h1; omega
  refine ⟨gp3, rfl, ⟨hv3, HR3.out.is HWF.out⟩, HD3.out, ?_, hge, fun k hk hm => ?_⟩
  · refine (((Off.refl fp w).alloc _)).trans HO3.out (fun i hi => ?_)
    rcases List.mem_append.1 hi with h1 | h1
    · simp at h1; exact .inr (by omega)
    · exact .inl h1
  · have := HLIM.out k hm
    have := hge k hk
    omega
end Go.Proofs.Ytkkmkcobmjdblaa
