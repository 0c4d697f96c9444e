/- Holders of a name that nobody holds. -/
import Derived.Test.YtffjdjbjkjefoaaTak
import Derived.Test.YtffjdjbjkjefoaaLic
import Derived.Shelf.SlIterI.Nil
namespace Go.Proofs.Ytffjdjbjkjefoaa
open Go.RowKit Go.WideAt Go.Shelf
set_option linter.unusedVariables false
set_option linter.unusedSimpArgs false

theorem keysNil (w : World) : Calls Try.prog 35 #[.map none] w fun e w' => e = .returned (.func (.func 48) #[] #[.pointer (some ⟨w.heap.size, 0, none⟩)]) ∧ w' = w.alloc (.cells #[.map none] 63) :=
  (callsIn_wide (n := 6)).1 (AnyZI.keys_in { Try.keysI with } Fence.wide 6 trivial rfl none w)
theorem sortsI_in : AnyZI.SortsIn Try.prog Try.sortedI_ren Fence.wide 5 :=
  ⟨fun blk off cap ss W hH hl hs => (callsIn_wide (n := 5)).2 (Try.slices_Sort_int blk off cap ss W hH hl hs), fun p cap W => (callsIn_wide (n := 5)).2 (Try.slices_Sort_int_none p cap W)⟩
theorem sortedNil (w : World) (Bm : Nat) (hB : Bm < w.heap.size) (hm : w.cell? ⟨Bm, 0, none⟩ = some (.map none)) :
    Calls Try.prog 34 #[.func (.func 48) #[] #[.pointer (some ⟨Bm, 0, none⟩)]] w fun e w' => e = .returned (.slice none 0 0) ∧ Below w.heap.size w w' := by
  have hseq : SeqGives Fence.wide (6 - 1 - 1 - 1) Try.prog 48 #[.pointer (some ⟨Bm, 0, none⟩)] encZ (fun ss : List Int => ss = []) 0 w := AnyZI.keys_gives_nil { Try.keys1I with } Fence.wide 3 trivial rfl Bm w hB hm
  refine ((callsIn_wide (n := 6)).1 (AnyZI.sorted_in { Try.sortedI with } Fence.wide 6 trivial trivial trivial trivial rfl (by omega) sortsI_in Try.enters41 48 _ trivial Try.enters48 _ 0 (by simp) (by omega) w hseq)).mono ?_
  rintro e w' ⟨v, ss, rfl, hs, _, hn, hb⟩
  exact ⟨by rw [hn.2 hs], hb⟩
set_option maxRecDepth 100000 in
theorem holders_none {w : World} {base : Nat} {B : Tb} {m : Held} {N : Nat} (hT : TabIs w base B m N) {s : List UInt8} (hs : NameOk s) (hb : B.on s = none) :
    Calls Try.prog 13 #[.pointer (some ⟨B.t, 0, none⟩), scell s] w fun e w' => e = .returned (.slice none 0 0) ∧ Below w.heap.size w w' := by
  have HLK := hide (hT.lookOn hs)
  unfold onV at HLK
  rw [hb] at HLK
  have c0 := hT.cells0
  clear hT hb
  have HK := hide (keysNil w)
  have HS : Hid (Calls Try.prog 34 #[.func (.func 48) #[] #[.pointer (some ⟨w.heap.size, 0, none⟩)]] (w.alloc (.cells #[.map none] 63)) fun e w' => e = .returned (.slice none 0 0) ∧ Below (w.alloc (.cells #[.map none] 63)).heap.size (w.alloc (.cells #[.map none] 63)) w') :=
    sortedNil _ _ (by simp) (by rw [cell_row (heap_alloc_new w _)]; rfl)
  have HB : Hid (Below w.heap.size w (w.alloc (.cells #[.map none] 63))) := (Below.refl _ _).alloc (Nat.le_refl _) _
  generalize w.alloc (.cells #[.map none] 63) = w1 at *
  go_enter Try.func13, Try.ntmps13
  go_wp2_with (first
    | (refine wpList_look rfl 53 _ _ false rfl _ _ _ rfl rfl HLK.out ?_)
    | (go_at_call 35; refine HK.out.mono ?_; rintro e w2 ⟨rfl, hw2⟩; have hw2 := hw2.symm; subst hw2)
    | (go_at_call 34; refine HS.out.mono ?_; rintro e w3 ⟨rfl, hb3⟩))
  go_ret
  exact ⟨rfl, HB.out.trans (hb3.mono HB.out.size)⟩
end Go.Proofs.Ytffjdjbjkjefoaa
