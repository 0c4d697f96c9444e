/- What the document's Write does. -/
import Derived.Test.YtkdlggobbkedmaaRefNew
namespace Go.Proofs.Ytkdlggobbkedmaa
open Go.RowKit
set_option linter.unusedVariables false
set_option linter.unusedSimpArgs false

theorem own_len {w : World} {e : TypeId} {size n : Nat} {v : Value} {xs : List Value} (h : w.ownsRow 0 e size v n xs) : ∃ ao c, v = .slice ao n c := by
  rcases h.2 with ⟨rfl, rfl⟩ | ⟨g, cap, cur, rfl, _⟩
  · exact ⟨_, _, rfl⟩
  · exact ⟨_, _, rfl⟩
theorem size_strOf (bs : List UInt8) : (strOf bs).size = bs.length := by simp [strOf, ByteArray.size]

set_option maxHeartbeats 400000 in
theorem rwrite_dead (p : Nat) (i : Int) (bs : List UInt8) (w : World) (fp : List Nat) (D : Dv) (h : RefAt w p fp D) (hd : D.dead = true) :
    Calls Try.prog 22 #[.pointer (some ⟨p, 0, none⟩), .int .i64 i, .string (strOf bs)] w fun e w' => e = .returned (.int .i64 50) ∧ w' = w := by
  obtain ⟨lv, cv, h⟩ := h
  have k3 := h.c3
  rw [hd] at k3
  go_enter Try.func22, Try.ntmps22
  go_wp2
  go_ret
  exact ⟨rfl, rfl⟩

set_option maxHeartbeats 400000 in
theorem rwrite_arg (p : Nat) (i : Int) (bs : List UInt8) (w : World) (fp : List Nat) (D : Dv) (h : RefAt w p fp D) (hd : D.dead = false) (hi : (i < 0 ∨ (D.L.length : Int) ≤ i) ∨ bs.length ≠ 128) :
    Calls Try.prog 22 #[.pointer (some ⟨p, 0, none⟩), .int .i64 i, .string (strOf bs)] w fun e w' => e = .returned (.int .i64 1) ∧ w' = w := by
  obtain ⟨lv, cv, h⟩ := h
  obtain ⟨lo, lc, hlv⟩ := own_len h.row
  subst hlv
  have k3 := h.c3
  have k0 := h.c0
  rw [hd] at k3
  have hsz := size_strOf bs
  by_cases h1 : i < 0
  · clear hi hd
    go_enter Try.func22, Try.ntmps22
    go_wp2
    go_ret
    exact ⟨rfl, rfl⟩
  · by_cases h2 : (D.L.length : Int) ≤ i
    · clear hi hd
      go_enter Try.func22, Try.ntmps22
      go_wp2
      go_ret
      exact ⟨rfl, rfl⟩
    · have h3 : ((bs.length : Int) != 128) = true := by rw [bne_iff_ne]; omega
      have h2' : decide ((D.L.length : Int) ≤ i) = false := by simpa using h2
      clear hi hd
      go_enter Try.func22, Try.ntmps22
      go_wp2
      go_ret
      exact ⟨rfl, rfl⟩

set_option maxHeartbeats 400000 in
theorem rwrite_burnt (p : Nat) (i : Nat) (bs : List UInt8) (w : World) (fp : List Nat) (D : Dv) (h : RefAt w p fp D) (hd : D.dead = false) (hi : i < D.L.length) (hb : bs.length = 128) (hf : D.fuse = 0) :
    Calls Try.prog 22 #[.pointer (some ⟨p, 0, none⟩), .int .i64 i, .string (strOf bs)] w fun e w' => e = .returned (.int .i64 50) ∧ RefAt w' p fp { D with dead := true } ∧ Off fp w w' := by
  obtain ⟨lv, cv, h⟩ := h
  obtain ⟨lo, lc, hlv⟩ := own_len h.row
  subst hlv
  have k3 := h.c3
  have k0 := h.c0
  rw [hd] at k3
  have k2 := h.c2
  rw [hf] at k2
  have h1 := h.heads 3 (.bool true) { D with dead := true } rfl rfl rfl
  have HB := hide (rburn_dies p w _ k2 h.c3 (h.fz 3))
  have hsz : (strOf bs).size = 128 := by rw [size_strOf]; exact hb
  have h2' : decide ((D.L.length : Int) ≤ (i : Int)) = false := by simpa using hi
  have h3 : ((128 : Int) != 128) = false := rfl
  clear hd hf hb
  go_enter Try.func22, Try.ntmps22
  go_wp2_with (go_at_call 41; refine HB.out.mono ?_; rintro e w' ⟨rfl, rfl⟩)
  go_ret
  exact ⟨rfl, ⟨_, _, h1⟩, (Off.refl fp w).setCell _ _ (.inl h.inP)⟩

set_option maxHeartbeats 1000000 in
set_option maxRecDepth 100000 in
theorem rwrite_ok (p i : Nat) (bs : List UInt8) (w : World) (fp : List Nat) (D : Dv) (h : RefAt w p fp D) (hd : D.dead = false) (hi : i < D.L.length) (hf : D.fuse ≠ 0) (hfm : D.fuse ≤ 9223372036854775807) (hm : D.W.length < 1000000) (hb : bs.length = 128) :
    Calls Try.prog 22 #[.pointer (some ⟨p, 0, none⟩), .int .i64 (i : Int), .string (strOf bs)] w fun e w' => e = .returned (.int .i64 0) ∧
      ∃ fp', RefAt w' p fp' (D.wrote i bs) ∧ Off fp w w' ∧ ∀ k ∈ fp', k ∈ fp ∨ w.heap.size ≤ k := by
  obtain ⟨lv, cv, h⟩ := h
  obtain ⟨lo, lc, hlv⟩ := own_len h.row
  subst hlv
  have k3 := h.c3
  have k0 := h.c0
  rw [hd] at k3
  have HB := hide (rburn_ok p w fp D _ cv h hf hfm)
  have hsz : (strOf bs).size = 128 := by rw [size_strOf]; exact hb
  have h2' : decide ((D.L.length : Int) ≤ (i : Int)) = false := by simpa using hi
  have h3 : ((128 : Int) != 128) = false := rfl
  have hinP := h.inP
  clear hd hf hb
  go_enter Try.func22, Try.ntmps22
  go_wp2_with fail
  refine HB.out.mono ?_
  rintro e w1 ⟨rfl, h1, ho1⟩
  have hO1 : Off fp w w1 := ho1.mono (by simpa using hinP)
  clear HB k3 k0 ho1 h
  obtain ⟨co, cc, hcv⟩ := own_len h1.cache
  subst hcv
  have k1 := h1.c1
  have hp := h1.lt
  have hBa : Below w1.heap.size w1 (w1.alloc (.cells #[.int .i64 (i : Int), .string (strOf bs)] 83)) := (Below.refl _ _).alloc (Nat.le_refl _) _
  have HRa := hide (h1.below hBa)
  have HS : Hid (∀ j u, ([.int .i64 (i : Int), .string (strOf bs)] : List Value)[j]? = some u → (w1.alloc (.cells #[.int .i64 (i : Int), .string (strOf bs)] 83)).cell? ((⟨w1.heap.size, 0, none⟩ : Addr).add j) = some u) := src_of_block (heap_alloc_new w1 _)
  have hWl : D.burnt.W.length = D.W.length := rfl
  go_wp2_with (refine wpList_append_owned rfl (.tmp 37) (.tmp 41) 55 rfl 83 (.agg #[.int .i64 0, .string ⟨#[]⟩]) 2 24 Try.underlying55 Try.info83 rfl (by omega) (.slice co D.burnt.W.length cc) D.burnt.W.length (strEnts D.burnt.W) rfl HRa.out.cache ⟨w1.heap.size, 0, none⟩ 1 1 [.int .i64 (i : Int), .string (strOf bs)] rfl rfl HS.out (by simp [Value.oneCell']) (by simp only [maxLen]; omega) (by omega) (fun v' w6 r1 r2 r3 => ?_); obtain ⟨vo, vn, vc, hv⟩ := own_form r1; subst hv; have hb6 := r2.block p HRa.out.lt (fun e => HRa.out.ne2 e.symm); have c6 := (World.cell?_of_block hb6).trans HRa.out.c1; have f6 := (World.frozen?_of_block (a := ⟨p, 1, none⟩) hb6).trans (HRa.out.fz 1); have d6 := (World.cell?_of_block hb6).trans HRa.out.c4; have g6 := (World.frozen?_of_block (a := ⟨p, 4, none⟩) hb6).trans (HRa.out.fz 4))
  obtain ⟨hR2, hO2, hF2⟩ := HRa.out.grewW r1 r2 r3
  have hR3 := hR2.heads 4 (.int .i64 (wrap64 (D.burnt.calls + 1))) (D.wrote i bs) rfl rfl rfl
  have hO3 : Off fp w1 ((w6.setCell ⟨p, 1, none⟩ (.slice vo vn vc)).setCell ⟨p, 4, none⟩ (.int .i64 (wrap64 (D.burnt.calls + 1)))) := ((Off.of_below hBa fp).trans hO2 (fun k hk => .inl hk)).setCell _ _ (.inl hinP)
  go_ret
  exact ⟨rfl, _, ⟨_, _, hR3⟩, hO1.trans hO3 (fun k hk => .inl hk), fun k hk => (hF2 k hk).imp id (fun h => Nat.le_trans hO1.size (Nat.le_trans hBa.size h))⟩

theorem rwrite_dev (p : Nat) (i : Int) (bs : List UInt8) (w : World) (fp : List Nat) (D : Dv) (h : RefAt w p fp D) (hfm : D.fuse ≤ 9223372036854775807) (hm : D.W.length < 1000000) :
    Calls Try.prog 22 #[.pointer (some ⟨p, 0, none⟩), .int .i64 i, .string (strOf bs)] w fun e w' => e = .returned (.int .i64 (D.write i bs).1) ∧
      ∃ fp', RefAt w' p fp' (D.write i bs).2 ∧ Off fp w w' ∧ ∀ k ∈ fp', k ∈ fp ∨ w.heap.size ≤ k := by
  unfold Dv.write
  by_cases hd : D.dead = true
  · simp only [hd, if_true]
    refine (rwrite_dead p i bs w fp D h hd).mono ?_
    rintro e w' ⟨rfl, rfl⟩
    exact ⟨rfl, fp, h, Off.refl _ _, fun k hk => .inl hk⟩
  · have hd' : D.dead = false := by simpa using hd
    rw [if_neg hd]
    by_cases ha : (i < 0 ∨ (D.L.length : Int) ≤ i) ∨ bs.length ≠ 128
    · rw [if_pos ha]
      refine (rwrite_arg p i bs w fp D h hd' ha).mono ?_
      rintro e w' ⟨rfl, rfl⟩
      exact ⟨rfl, fp, h, Off.refl _ _, fun k hk => .inl hk⟩
    · rw [if_neg ha]
      have hb : bs.length = 128 := by omega
      obtain ⟨n, rfl⟩ : ∃ n : Nat, i = n := ⟨i.toNat, by omega⟩
      have hn : n < D.L.length := by omega
      by_cases hf : D.fuse = 0
      · rw [if_pos hf]
        refine (rwrite_burnt p n bs w fp D h hd' hn hb hf).mono ?_
        rintro e w' ⟨rfl, h1, h2⟩
        exact ⟨rfl, fp, h1, h2, fun k hk => .inl hk⟩
      · rw [if_neg hf]
        refine (rwrite_ok p n bs w fp D h hd' hn hf hfm hm hb).mono ?_
        rintro e w' ⟨rfl, fp', h1, h2, h3⟩
        exact ⟨rfl, fp', h1, h2, h3⟩
end Go.Proofs.Ytkdlggobbkedmaa
