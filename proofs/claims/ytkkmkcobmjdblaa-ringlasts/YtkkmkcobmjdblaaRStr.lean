/- Bytes as a string; a ring that stands while another block is written. -/
import Derived.Test.YtkkmkcobmjdblaaRIn
import Derived.Laws.BytesString
import Derived.Laws.Concat
namespace Go.Proofs.Ytkkmkcobmjdblaa
open Go.RowKit
set_option linter.unusedVariables false
set_option linter.unusedSimpArgs false

def strOf (bs : List UInt8) : ByteArray := ⟨bs.toArray⟩
theorem foldl_push : ∀ (bs : List UInt8) (s : ByteArray), (bs.map fun b => (b.toNat : Int)).foldl (fun r n => r.push (UInt8.ofNat n.toNat)) s = ⟨s.data ++ bs.toArray⟩
  | [], s => by simp
  | b :: r, s => by
    rw [List.map_cons, List.foldl_cons, foldl_push r]
    simp [ByteArray.push]
theorem run_str {w : World} {ao : Option Addr} {n c : Nat} {bs : List UInt8} (h : Sl w (.slice ao n c) bs) (hl : bs.length = n) :
    (convert 27 9 (.slice ao n c)).run Try.prog w = .ok (.string (strOf bs)) w := by
  rw [run_convert_bytes_string w 27 9 5 _ _ _ Try.underlying27 Try.underlying5 Try.underlying9]
  rcases h with ⟨c', e, rfl⟩ | ⟨a, c', e, hc⟩
  · injection e with e1 e2 e3
    subst e1 e2 e3
    simp [Conv.bytesToString, strOf]
    rfl
  · injection e with e1 e2 e3
    subst e1 e3
    have hload : (loadCells a n).run Try.prog w = .ok ((bs.map fun b => (b.toNat : Int)).map (Value.int .u8)).toArray w := by
      have := run_loadCells_list (P := Try.prog) w a (secCells bs) hc
      rw [length_secCells, hl] at this
      rw [this]
      simp [secCells, bcell]
    rw [run_bytesToString w _ _ _ _ hload, foldl_push]
    simp [strOf]
theorem strOf_inj {a b : List UInt8} (h : strOf a = strOf b) : a = b := by
  have := congrArg (fun s => s.data.toList) h
  simpa [strOf] using this
theorem strOf_append (a b : List UInt8) : strOf a ++ strOf b = strOf (a ++ b) := by
  simp only [strOf, ByteArray.mk_append_mk]
theorem size_strOf (a : List UInt8) : (strOf a).size = a.length := by simp [strOf, ByteArray.size]
/-- A ring stands while a block that is apart is written. -/
theorem Both.write {w0 w w' : World} {q p g : Nat} {xs : List Nat} {R : Rg} {D : Dv} (h : Both w0 w q p xs R D) (hg : g ∈ xs) (hg0 : w0.heap.size ≤ g) (hO : Off [g] w w') : Both w0 w' q p xs R D := by
  obtain ⟨gp, fp, x⟩ := h
  have hgg := x.gx g hg
  have hgf := (x.dv.xs g hg).2
  refine ⟨gp, fp, x.rg.apart hO (fun k hk hm => by simp at hm; exact hgg (hm ▸ hk)), ⟨x.dv.dev.apart hO (fun k hk hm => by simp at hm; exact hgf (hm ▸ hk)), x.dv.f0, fun k hk => ⟨Nat.lt_of_lt_of_le (x.dv.xs k hk).1 hO.size, (x.dv.xs k hk).2⟩, ?_⟩, x.dis, x.g0, x.gx⟩
  exact x.dv.below.trans (hO.below x.dv.below.size (fun k hk => by simp at hk; rw [hk]; exact hg0))
end Go.Proofs.Ytkkmkcobmjdblaa
