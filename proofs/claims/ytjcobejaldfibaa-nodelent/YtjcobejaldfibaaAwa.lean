/- awake: what the document fixes. -/
import Derived.Test.YtjcobejaldfibaaEnc
import Derived.Test.YtjcobejaldfibaaSpl
import Derived.Lib.SlBytesConst
namespace Go.Proofs.Ytjcobejaldfibaa
open Go.RowKit
set_option linter.unusedVariables false
set_option linter.unusedSimpArgs false

def abc : Nd := ⟨true, [[97], [98], [99]], [[], [], []], [], 0⟩
theorem build22_3 (w : World) (a b c : Option Addr) (n m k x y z : Nat) : (Instr.buildSlice 22 3 #[(0, .slice a n x), (1, .slice b m y), (2, .slice c k z)]).run Try.prog w = .ok (.slice (some ⟨w.heap.size, 0, none⟩) 3 3) (w.alloc (.cells #[.slice a n x, .slice b m y, .slice c k z] 28)) := by kernel_rfl
theorem ts3 {w : World} {a b c : Value} {A B C : List UInt8} (ha : Sl w a A) (hb : Sl w b B) (hc : Sl w c C) : TsAt (w.alloc (.cells #[a, b, c] 28)) (.slice (some ⟨w.heap.size, 0, none⟩) 3 3) [A, B, C] := by
  have hbl : Below w.heap.size w (w.alloc (.cells #[a, b, c] 28)) := (Below.refl _ _).alloc (Nat.le_refl _) _
  exact ⟨[a, b, c], ⟨ha.belowW hbl, hb.belowW hbl, hc.belowW hbl, trivial⟩, ⟨_, 3, rfl, Nat.le_refl _, by simp only [maxLen]; omega, fun _ => ⟨w.heap.size, 0, rfl, fun j u hu => by rw [Nat.zero_add, cell_row (heap_alloc_new w _)]; simpa using hu⟩⟩⟩
def litW (w : World) : World := ((w.alloc (.cells #[.int .u8 97] 5 (1, 2))).alloc (.cells #[.int .u8 98] 5 (1, 2))).alloc (.cells #[.int .u8 99] 5 (1, 2))
theorem below_alloc {w0 w : World} (h : Below w0.heap.size w0 w) (o : Obj) : Below w0.heap.size w0 (w.alloc o) := h.alloc h.size o
theorem abc_at (w : World) : Below w.heap.size w (((litW w).alloc (.cells #[.slice (some ⟨w.heap.size, 0, none⟩) 1 1, .slice (some ⟨w.heap.size + 1, 0, none⟩) 1 1, .slice (some ⟨w.heap.size + 1 + 1, 0, none⟩) 1 1] 28)).alloc (.cells #[.slice none 0 0, .slice none 0 0, .slice none 0 0] 28)) ∧
    NdAt (((litW w).alloc (.cells #[.slice (some ⟨w.heap.size, 0, none⟩) 1 1, .slice (some ⟨w.heap.size + 1, 0, none⟩) 1 1, .slice (some ⟨w.heap.size + 1 + 1, 0, none⟩) 1 1] 28)).alloc (.cells #[.slice none 0 0, .slice none 0 0, .slice none 0 0] 28)) abc (.slice (some ⟨w.heap.size + 1 + 1 + 1, 0, none⟩) 3 3) (.slice (some ⟨w.heap.size + 1 + 1 + 1 + 1, 0, none⟩) 3 3) (.slice none 0 0) := by
  have b1 := below_alloc (Below.refl w.heap.size w) (.cells #[.int .u8 97] 5 (1, 2))
  have b2 := below_alloc b1 (.cells #[.int .u8 98] 5 (1, 2))
  have b3 : Below w.heap.size w (litW w) := below_alloc b2 (.cells #[.int .u8 99] 5 (1, 2))
  have s1 : Sl (litW w) (.slice (some ⟨w.heap.size, 0, none⟩) 1 1) [97] := ((sl1 w 97 (1, 2)).belowW ((Below.refl _ _).alloc (Nat.le_refl _) (.cells #[.int .u8 98] 5 (1, 2)))).belowW ((Below.refl _ _).alloc (Nat.le_refl _) (.cells #[.int .u8 99] 5 (1, 2)))
  have s2 : Sl (litW w) (.slice (some ⟨w.heap.size + 1, 0, none⟩) 1 1) [98] := by
    have := (sl1 (w.alloc (.cells #[.int .u8 97] 5 (1, 2))) 98 (1, 2)).belowW ((Below.refl _ _).alloc (Nat.le_refl _) (.cells #[.int .u8 99] 5 (1, 2)))
    rwa [show (w.alloc (.cells #[.int .u8 97] 5 (1, 2))).heap.size = w.heap.size + 1 by simp] at this
  have s3 : Sl (litW w) (.slice (some ⟨w.heap.size + 1 + 1, 0, none⟩) 1 1) [99] := by
    have := sl1 ((w.alloc (.cells #[.int .u8 97] 5 (1, 2))).alloc (.cells #[.int .u8 98] 5 (1, 2))) 99 (1, 2)
    rwa [show ((w.alloc (.cells #[.int .u8 97] 5 (1, 2))).alloc (.cells #[.int .u8 98] 5 (1, 2))).heap.size = w.heap.size + 1 + 1 by simp] at this
  have hsz : (litW w).heap.size = w.heap.size + 1 + 1 + 1 := by unfold litW; simp
  have k1 := ts3 s1 s2 s3
  rw [hsz] at k1
  have b4 := below_alloc b3 (.cells #[.slice (some ⟨w.heap.size, 0, none⟩) 1 1, .slice (some ⟨w.heap.size + 1, 0, none⟩) 1 1, .slice (some ⟨w.heap.size + 1 + 1, 0, none⟩) 1 1] 28)
  have k2 := ts3 (Sl.nil ((litW w).alloc (.cells #[.slice (some ⟨w.heap.size, 0, none⟩) 1 1, .slice (some ⟨w.heap.size + 1, 0, none⟩) 1 1, .slice (some ⟨w.heap.size + 1 + 1, 0, none⟩) 1 1] 28))) (Sl.nil _) (Sl.nil _)
  rw [show ((litW w).alloc (.cells #[.slice (some ⟨w.heap.size, 0, none⟩) 1 1, .slice (some ⟨w.heap.size + 1, 0, none⟩) 1 1, .slice (some ⟨w.heap.size + 1 + 1, 0, none⟩) 1 1] 28)).heap.size = w.heap.size + 1 + 1 + 1 + 1 by simp [hsz]] at k2
  exact ⟨below_alloc b4 _, k1.belowW ((Below.refl _ _).alloc (Nat.le_refl _) _), k2, InAt.nil _⟩
theorem abc_fits : Fits abc := ⟨by decide, by decide, by decide, fun k hk => by simp [abc] at hk; rcases hk with rfl | rfl | rfl <;> decide, fun k hk => by simp [abc] at hk; subst hk; decide⟩
set_option maxHeartbeats 400000 in
theorem awake_any (w : World) : Calls Try.prog 11 #[] w fun e w' => e = .returned (.bool true) ∧ Below w.heap.size w w' := by
  have hlit := build1
  have hc1 := fun (w : World) (x : Int) => Go.Lib.run_convert_bytes_const (P := Try.prog) w 28 5 #[.int .u8 x] 1 1 Try.underlying28 Try.underlying5
  have hc2 : (convert 28 28 (.slice (some ⟨w.heap.size + 1, 0, none⟩) 1 1)).run Try.prog ((w.alloc (.cells #[.int .u8 97] 5 (1, 2))).alloc (.cells #[.int .u8 98] 5)) = .ok (.slice (some ⟨w.heap.size + 1, 0, none⟩) 1 1) ((w.alloc (.cells #[.int .u8 97] 5 (1, 2))).alloc (.cells #[.int .u8 98] 5 (1, 2))) := by
    have := hc1 (w.alloc (.cells #[.int .u8 97] 5 (1, 2))) 98
    rwa [show (w.alloc (.cells #[.int .u8 97] 5 (1, 2))).heap.size = w.heap.size + 1 by simp] at this
  have hc3 : (convert 28 28 (.slice (some ⟨w.heap.size + 1 + 1, 0, none⟩) 1 1)).run Try.prog (((w.alloc (.cells #[.int .u8 97] 5 (1, 2))).alloc (.cells #[.int .u8 98] 5 (1, 2))).alloc (.cells #[.int .u8 99] 5)) = .ok (.slice (some ⟨w.heap.size + 1 + 1, 0, none⟩) 1 1) (((w.alloc (.cells #[.int .u8 97] 5 (1, 2))).alloc (.cells #[.int .u8 98] 5 (1, 2))).alloc (.cells #[.int .u8 99] 5 (1, 2))) := by
    have := hc1 ((w.alloc (.cells #[.int .u8 97] 5 (1, 2))).alloc (.cells #[.int .u8 98] 5 (1, 2))) 99
    rwa [show ((w.alloc (.cells #[.int .u8 97] 5 (1, 2))).alloc (.cells #[.int .u8 98] 5 (1, 2))).heap.size = w.heap.size + 1 + 1 by simp] at this
  have hb3 := build22_3
  have HA := hide (abc_at w)
  go_enter Try.func11, Try.ntmps11
  go_upto_region 2 with fail
  have HB0 : Hid (Below w.heap.size w (((((((w.alloc (.cells #[.int .u8 97] 5 (1, 2))).alloc (.cells #[.int .u8 98] 5 (1, 2))).alloc (.cells #[.int .u8 99] 5 (1, 2)))).alloc (.cells #[.slice (some ⟨w.heap.size, 0, none⟩) 1 1, .slice (some ⟨w.heap.size + 1, 0, none⟩) 1 1, .slice (some ⟨w.heap.size + 1 + 1, 0, none⟩) 1 1] 28)).alloc (.cells #[.slice none 0 0, .slice none 0 0, .slice none 0 0] 28)).alloc (.cells #[.bool true, .slice (some ⟨w.heap.size + 1 + 1 + 1, 0, none⟩) 3 3, .slice (some ⟨w.heap.size + 1 + 1 + 1 + 1, 0, none⟩) 3 3, .slice none 0 0, .int .i64 0] 26))) := below_alloc HA.out.1 _
  have HN0 := hide (HA.out.2.alloc (.cells #[.bool true, .slice (some ⟨w.heap.size + 1 + 1 + 1, 0, none⟩) 3 3, .slice (some ⟨w.heap.size + 1 + 1 + 1 + 1, 0, none⟩) 3 3, .slice none 0 0, .int .i64 0] 26))
  have HX0 := hide (Box.new (t := 26) (((litW w).alloc (.cells #[.slice (some ⟨w.heap.size, 0, none⟩) 1 1, .slice (some ⟨w.heap.size + 1, 0, none⟩) 1 1, .slice (some ⟨w.heap.size + 1 + 1, 0, none⟩) 1 1] 28)).alloc (.cells #[.slice none 0 0, .slice none 0 0, .slice none 0 0] 28)) (.bool true) (.slice (some ⟨w.heap.size + 1 + 1 + 1, 0, none⟩) 3 3) (.slice (some ⟨w.heap.size + 1 + 1 + 1 + 1, 0, none⟩) 3 3) (.slice none 0 0) (.int .i64 0))
  rw [show (((litW w).alloc (.cells #[.slice (some ⟨w.heap.size, 0, none⟩) 1 1, .slice (some ⟨w.heap.size + 1, 0, none⟩) 1 1, .slice (some ⟨w.heap.size + 1 + 1, 0, none⟩) 1 1] 28)).alloc (.cells #[.slice none 0 0, .slice none 0 0, .slice none 0 0] 28)).heap.size = w.heap.size + 1 + 1 + 1 + 1 + 1 by unfold litW; simp] at HX0
  unfold litW at HN0 HX0
  clear hlit hc1 hc2 hc3 hb3 HA
  generalize (((((((w.alloc (.cells #[.int .u8 97] 5 (1, 2))).alloc (.cells #[.int .u8 98] 5 (1, 2))).alloc (.cells #[.int .u8 99] 5 (1, 2)))).alloc (.cells #[.slice (some ⟨w.heap.size, 0, none⟩) 1 1, .slice (some ⟨w.heap.size + 1, 0, none⟩) 1 1, .slice (some ⟨w.heap.size + 1 + 1, 0, none⟩) 1 1] 28)).alloc (.cells #[.slice none 0 0, .slice none 0 0, .slice none 0 0] 28)).alloc (.cells #[.bool true, .slice (some ⟨w.heap.size + 1 + 1 + 1, 0, none⟩) 3 3, .slice (some ⟨w.heap.size + 1 + 1 + 1 + 1, 0, none⟩) 3 3, .slice none 0 0, .int .i64 0] 26)) = W0 at *
  generalize w.heap.size + 1 + 1 + 1 + 1 + 1 = bx at *
  generalize (some (⟨w.heap.size + 1 + 1 + 1, 0, none⟩ : Addr)) = ak at *
  generalize (some (⟨w.heap.size + 1 + 1 + 1 + 1, 0, none⟩ : Addr)) = av at *
  have HSP : Hid (Calls Try.prog 13 #[.agg #[.bool true, .slice ak 3 3, .slice av 3 3, .slice none 0 0, .int .i64 0]] W0 (SplitEnd W0 ⟨true, [[97]], [[]], [], 0⟩ [98] ⟨true, [[98], [99]], [[], []], [], 0⟩)) := split_leaf (N := abc) HN0.out abc_fits (by decide) (by decide) rfl
  obtain ⟨k0, k1, k2, k3, k4, f0, f1, f2, f3, f4⟩ := HX0.out.cells
  go_wp2_with fail
  refine HSP.out.mono ?_
  rintro e W1 ⟨lk, lv, li, uk, rk, rv, ri, rfl, hb1, hL, hK, hR⟩
  obtain ⟨a1, c1, e1, _, _⟩ := hL.keys.at.len
  obtain ⟨a2, c2, e2, _, _⟩ := hL.vals.at.len
  obtain ⟨a3, c3, e3, _, _⟩ := hL.at.kids.len
  obtain ⟨a4, c4, e4, _, _⟩ := hR.keys.at.len
  obtain ⟨a5, c5, e5, _, _⟩ := hR.vals.at.len
  obtain ⟨a6, c6, e6, _, _⟩ := hR.at.kids.len
  obtain ⟨a7, c7, e7⟩ := owns_len hK
  have e1 : lk = .slice a1 1 c1 := e1
  have e2 : lv = .slice a2 1 c2 := e2
  have e3 : li = .slice a3 0 c3 := e3
  have e4 : rk = .slice a4 2 c4 := e4
  have e5 : rv = .slice a5 2 c5 := e5
  have e6 : ri = .slice a6 0 c6 := e6
  have e7 : uk = .slice a7 1 c7 := e7
  subst e1 e2 e3 e4 e5 e6 e7
  have HKS : Hid (Sl W1 (.slice a7 1 c7) [98]) := Row.of_owns hK
  have HB1 := hide (HB0.out.trans (hb1.mono HB0.out.size))
  have HX1 := hide (HX0.out.belowW hb1)
  have HN1 := hide (HN0.out.belowW hb1)
  clear hL hK hR hb1 k0 k1 k2 k3 k4 f0 f1 f2 f3 f4 HX0 HN0 HB0 HSP
  go_upto_region 3 with fail
  have h2 := (Below.refl W1.heap.size W1).alloc (Nat.le_refl _) (.cells #[.bool true, .slice a1 1 c1, .slice a2 1 c2, .slice a3 0 c3, .int .i64 0] 26)
  have h3 := h2.alloc h2.size (.cells #[.bool true, .slice a4 2 c4, .slice a5 2 c5, .slice a6 0 c6, .int .i64 0] 26)
  have HY2 := hide ((Box.new (t := 26) W1 (.bool true) (.slice a1 1 c1) (.slice a2 1 c2) (.slice a3 0 c3) (.int .i64 0)).alloc (.cells #[.bool true, .slice a4 2 c4, .slice a5 2 c5, .slice a6 0 c6, .int .i64 0] 26))
  have HZ2 := hide (Box.new (t := 26) (W1.alloc (.cells #[.bool true, .slice a1 1 c1, .slice a2 1 c2, .slice a3 0 c3, .int .i64 0] 26)) (.bool true) (.slice a4 2 c4) (.slice a5 2 c5) (.slice a6 0 c6) (.int .i64 0))
  rw [show (W1.alloc (.cells #[.bool true, .slice a1 1 c1, .slice a2 1 c2, .slice a3 0 c3, .int .i64 0] 26)).heap.size = W1.heap.size + 1 by simp] at HZ2
  have HX2 := hide (HX1.out.belowW h3)
  have HN2 := hide (HN1.out.belowW h3)
  have HB2 := hide (HB1.out.trans (h3.mono HB1.out.size))
  have HK2 := hide (HKS.out.belowW h3)
  clear h2 h3 HX1 HN1 HB1 HKS
  generalize ((W1.alloc (.cells #[.bool true, .slice a1 1 c1, .slice a2 1 c2, .slice a3 0 c3, .int .i64 0] 26)).alloc (.cells #[.bool true, .slice a4 2 c4, .slice a5 2 c5, .slice a6 0 c6, .int .i64 0] 26)) = W2 at *
  have HEN : Hid (Calls Try.prog 15 #[.agg #[.bool true, .slice ak 3 3, .slice av 3 3, .slice none 0 0, .int .i64 0]] W2 fun e w' => ∃ v c, e = .returned (.tuple #[.slice v 504 c, .int .i64 0]) ∧ Below W2.heap.size W2 w') := (encode_leaf (N := abc) HN2.out abc_fits rfl).mono (fun e w' h => by
    have hsd : abc.sound = true := by decide
    have hsz : abc.size = 22 := by decide
    rcases h.out with ⟨h1, _⟩ | ⟨_, h2, _⟩ | ⟨_, _, v, h3, h4⟩
    · rw [hsd] at h1; cases h1
    · rw [hsz] at h2; omega
    · obtain ⟨a, c, rfl⟩ := owns_len h4
      rw [length_page (by decide) (by rw [hsz]; omega)] at h3
      exact ⟨a, c, h3, h.below⟩)
  obtain ⟨k0, k1, k2, k3, k4, f0, f1, f2, f3, f4⟩ := HX2.out.cells
  go_wp2_with fail
  refine HEN.out.mono ?_
  rintro e W3 ⟨v3, c3', rfl, hb3⟩
  have HX3 := hide (HX2.out.belowW hb3)
  have HY3 := hide (HY2.out.belowW hb3)
  have HZ3 := hide (HZ2.out.belowW hb3)
  have hk3 := run_str (HK2.out.belowW hb3)
  have hst : strOf [98] = { data := #[98] } := rfl
  rw [hst] at hk3
  have HB3 := hide (HB2.out.trans (hb3.mono HB2.out.size))
  have HSZ : Hid (∀ W, Below W2.heap.size W2 W → Calls Try.prog 23 #[.agg #[.bool true, .slice ak 3 3, .slice av 3 3, .slice none 0 0, .int .i64 0]] W fun e w' => e = .returned (.int .i64 22) ∧ Below W.heap.size W w') := fun W hW => by
    have := size_any (N := abc) (HN2.out.belowW hW) abc_fits (by decide)
    have hsz : abc.size = 22 := by decide
    rw [hsz] at this
    exact this
  have HSZ3 := hide (HSZ.out W3 hb3)
  have hq : (({ data := #[98] } : ByteArray).toList == ({ data := #[98] } : ByteArray).toList) = true := by simp
  clear hb3 k0 k1 k2 k3 k4 f0 f1 f2 f3 f4 HX2 HY2 HZ2 HEN HSZ HB2 HN2 HK2
  obtain ⟨k0, k1, k2, k3, k4, f0, f1, f2, f3, f4⟩ := HX3.out.cells
  obtain ⟨j0, j1, j2, j3, j4, g0, g1, g2, g3, g4⟩ := HY3.out.cells
  obtain ⟨i0, i1, i2, i3, i4, q0, q1, q2, q3, q4⟩ := HZ3.out.cells
  go_wp2_with (go_at_call 23; refine HSZ3.out.mono ?_; rintro e W4 ⟨rfl, hb4⟩)
  go_ret
  exact ⟨rfl, HB3.out.trans (hb4.mono HB3.out.size)⟩
end Go.Proofs.Ytjcobejaldfibaa
