/- A part of it: SBegin. -/
import Derived.Test.YteeembildppgmaaGreatM0
import Derived.Test.YteeembildppgmaaGreatM22
namespace Go.Proofs.YteeembildppgmaaGreat
open Go.RowKit
set_option linter.unusedVariables false
set_option linter.unusedSimpArgs false
theorem run_store63 (w : World) (q : Nat) (u : Value) (ao : Option Addr) (m c : Nat) (h : w.cell? ⟨q, 4, none⟩ = some u) (hf : w.frozen? ⟨q, 4, none⟩ = false) :
 (Instr.storeAt 63 (.pointer (some ⟨q, 4, none⟩)) (.slice ao m c)).run Tryz.prog w = .ok () (w.setCell ⟨q, 4, none⟩ (.slice ao m c)) := by
 simp [go_sem, h, hf]
theorem Tryz.info72 : (Tryz.prog.info? 72).map (fun i => (i.zero, i.size, i.bytes)) = some (some (.pointer none), 1, 8) := by kernel_rfl
section
variable {w0 w w' : World} {s : Nat} {c : Cf} {xs tb : List Nat} {ov : Value} {ps : List Nat} {uvs : List Value} {S : St} {V : Nat → List UInt8}
theorem StIs.ovrow (h : StIs w0 w s c xs tb ov ps uvs S) (k : Nat) (hk : ov.ownBlock = some k) : ∃ C, w.heap[k]? = some (.cells C 72 (0, 0)) := by
 rcases h.own.2 with ⟨h1, _⟩ | ⟨g, cap, cur, h1, _, h3, _⟩
 · rw [h1] at hk; simp [Value.ownBlock] at hk
 · rw [h1] at hk
   have : g = k := by simpa [Value.ownBlock] using hk
   exact ⟨cur, by rw [← this]; exact h3⟩
theorem StIs.addTx {x : Nat} {T : Tn} {ov' : Value} {w5 : World} (h : StIs w0 w s c (x :: xs) tb ov ps uvs S) (hg : w.grownBy w5 ov.ownBlock) (ho : w5.ownsRow 0 72 1 ov' (S.txs.length + 1) (ptrs ps ++ [.pointer (some ⟨x, 0, none⟩)])) (hf : ∀ k, ov'.ownBlock = some k → ov.ownBlock = some k ∨ w.heap.size ≤ k)
 (hx : w.heap[x]? = some (.cells #[.int .i64 (T.id : Int), .int .i64 (T.begin : Int), .int .i64 (T.last : Int), .slice none 0 0] 75 (0, 0))) (hu : T.ups = []) (hxs : x ∉ xs) (hxt : x ∉ tb) (hfew : S.txs.length < 1000) (hx0 : w0.heap.size ≤ x) :
 ∃ tb', StIs w0 (w5.setCell ⟨s, 4, none⟩ ov') s c xs tb' ov' (ps ++ [x]) (uvs ++ [.slice none 0 0]) { S with txs := S.txs ++ [T] } := by
 have hl : ∀ k ∈ s :: (tb ++ (x :: xs)), k < w.heap.size := fun k hk => h.lts hk
 have sxx : s ≠ x := fun e => h.sx (by simp [e])
 have hso : ov.ownBlock ≠ some s := fun e => h.sx (by simp [h.inO s e])
 have hso' : ov'.ownBlock ≠ some s := fun e => by
  rcases hf s e with h1 | h1
  · exact hso h1
  · have := hl s (by simp); omega
 have hO : Off (s :: ov.ownBlock.toList) w (w5.setCell ⟨s, 4, none⟩ ov') := by
  have h1 : Off (s :: ov.ownBlock.toList) w w5 := (Off.refl _ w).grown hg (fun k hk => .inl (by rw [hk]; simp))
  exact h1.setCell _ _ (.inl (by simp))
 have hK : ∀ k, k ≠ s → ov.ownBlock ≠ some k → k ∈ s :: (tb ++ (x :: xs)) → (w5.setCell ⟨s, 4, none⟩ ov').heap[k]? = w.heap[k]? := fun k h1 h2 hm => hO.block k (hl k hm) (by simp [h1, h2])
 have nx : ov.ownBlock ≠ some x := fun e => by
  obtain ⟨C, hC⟩ := h.ovrow x e
  rw [hx] at hC; simp at hC
 have hs5 : w5.heap[s]? = w.heap[s]? := hg.block s (hl s (by simp)) (fun e => hso e.symm)
 have hsz5 := hg.size
 have hszO := hO.size
 have htx : ∀ (i y : Nat) (U : Tn) (uv : Value), ps[i]? = some y → S.txs[i]? = some U → uvs[i]? = some uv → ∃ vs, TxIs (w5.setCell ⟨s, 4, none⟩ ov') (x :: (ov'.ownBlock.toList ++ tb)) y U uv vs := fun i y U uv a b d => by
  obtain ⟨vs, t⟩ := h.tx i y U uv a b d
  have key : ∀ k ∈ tb, (∃ C t', w.heap[k]? = some (.cells C t' (0, 0)) ∧ t' ≠ 72) → (w5.setCell ⟨s, 4, none⟩ ov').heap[k]? = w.heap[k]? := fun k hk ⟨C, t', h1, h2⟩ => hK k (fun e => h.sx (by rw [← e]; simp [hk])) (fun e => by
   obtain ⟨C', h3⟩ := h.ovrow k e
   rw [h3] at h1; simp at h1; exact h2 h1.2.symm) (by simp [hk])
  refine ⟨vs, by rw [key y t.inX ⟨_, 75, t.head, by decide⟩]; exact t.head, owns_of_block t.ups (fun k hk => by obtain ⟨C, hC⟩ := t.row k hk; exact key k (t.inU k hk) ⟨C, 107, hC, by decide⟩), t.vlen, fun j u v h1 h2 => ?_, by simp [t.inX], fun k hk => by simp [t.inU k hk]⟩
  obtain ⟨g, cc, a1, a2, a3, a4, a5, C, a6⟩ := t.byt j u v h1 h2
  have e := key g a4 ⟨C, 5, a6, by decide⟩
  exact ⟨g, cc, a1, a2, a3, by simp [a4], a5.of hszO e, C, by rw [e]; exact a6⟩
 have hplen := h.plen
 have hulen := h.ulen
 refine ⟨x :: (ov'.ownBlock.toList ++ tb), {
  pool := h.pool.writeNew (Z := s :: ov.ownBlock.toList) (fun k hk => ?_) hO (fun k hm => ?_)
  head := ?_
  own := ?_
  plen := by simp [hplen]
  ulen := by simp [hulen]
  tx := fun i y U uv a b d => ?_
  nodup := fun i j y a b => ?_
  udis := fun i j u v k a b d e => ?_
  s0 := h.s0
  t0 := fun k hk => ?_
  sx := fun hm => ?_
  tbx := fun k hk hm => ?_
  inO := fun k hk => by simp [hk]
  few := by simp; omega
  lg2 := h.lg2
  n8 := h.n8 }⟩
 · rcases List.mem_cons.1 hk with e | e
   · rw [e]; exact ⟨by simp, h.s0⟩
   · have e' : ov.ownBlock = some k := by simpa using e
     exact ⟨by simp [h.inO k e'], h.t0 k (h.inO k e')⟩
 · simp only [List.mem_cons, List.mem_append] at hm ⊢
   rcases hm with e | (e | e | e) | e
   · exact .inl (.inl e)
   · exact .inl (.inr (.inr (.inl e)))
   · have e' : ov'.ownBlock = some k := by simpa using e
     rcases hf k e' with h1 | h1
     · exact .inl (.inr (.inl (h.inO k h1)))
     · exact .inr ⟨h1, by have := (ho.lt k e').2; simpa [World.setCell] using this⟩
   · exact .inl (.inr (.inl e))
   · exact .inl (.inr (.inr (.inr e)))
 · rw [heap_setCell_same w5 s 4 _ _ ov' (hs5.trans h.head)]
   rfl
 · show World.ownsRow _ 0 72 1 ov' (S.txs ++ [T]).length (ptrs (ps ++ [x]))
   have e : ptrs (ps ++ [x]) = ptrs ps ++ [.pointer (some ⟨x, 0, none⟩)] := by simp [ptrs]
   rw [e, List.length_append]
   exact owns_of_block ho (fun k hk => heap_setCell_other w5 _ k ov' (fun e2 => hso' (by rw [hk]; exact congrArg some e2)))
 · by_cases hi : i < S.txs.length
   · rw [List.getElem?_append_left (by omega)] at a d
     have b : S.txs[i]? = some U := by
      have b' : (S.txs ++ [T])[i]? = some U := b
      rwa [List.getElem?_append_left hi] at b'
     exact htx i y U uv a b d
   · have b' : (S.txs ++ [T])[i]? = some U := b
     have hil : i < (S.txs ++ [T]).length := (List.getElem?_eq_some_iff.1 b').1
     have hie : i = S.txs.length := by simp at hil; omega
     subst hie
     rw [List.getElem?_append_right (by omega), hplen, Nat.sub_self] at a
     rw [List.getElem?_append_right (by omega), hulen, Nat.sub_self] at d
     rw [List.getElem?_append_right (by omega), Nat.sub_self] at b'
     simp at a b' d
     subst a; subst b'; subst d
     have ex : (w5.setCell ⟨s, 4, none⟩ ov').heap[x]? = w.heap[x]? := hK x (Ne.symm sxx) nx (by simp)
     refine ⟨[], by rw [ex]; exact hx, ?_, by simp [hu], fun j u v h1 => by rw [hu] at h1; simp at h1, by simp, fun k hk => by simp [Value.ownBlock] at hk⟩
     rw [hu]
     exact World.ownsRow_nil _ _ _ _
 · by_cases hi : i < ps.length <;> by_cases hj : j < ps.length
   · rw [List.getElem?_append_left hi] at a
     rw [List.getElem?_append_left hj] at b
     exact h.nodup i j y a b
   · rw [List.getElem?_append_left hi] at a
     have hjl := (List.getElem?_eq_some_iff.1 b).1
     have hje : j = ps.length := by simp at hjl; omega
     subst hje
     rw [List.getElem?_append_right (by omega), Nat.sub_self] at b
     simp at b
     subst b
     obtain ⟨vs, t⟩ := h.tx i x _ _ a (List.getElem?_eq_getElem (by omega)) (List.getElem?_eq_getElem (by omega))
     exact absurd t.inX hxt
   · rw [List.getElem?_append_left hj] at b
     have hjl := (List.getElem?_eq_some_iff.1 a).1
     have hje : i = ps.length := by simp at hjl; omega
     subst hje
     rw [List.getElem?_append_right (by omega), Nat.sub_self] at a
     simp at a
     subst a
     obtain ⟨vs, t⟩ := h.tx j x _ _ b (List.getElem?_eq_getElem (by omega)) (List.getElem?_eq_getElem (by omega))
     exact absurd t.inX hxt
   · have h1 := (List.getElem?_eq_some_iff.1 a).1
     have h2 := (List.getElem?_eq_some_iff.1 b).1
     simp at h1 h2
     omega
 · by_cases hi : i < uvs.length <;> by_cases hj : j < uvs.length
   · rw [List.getElem?_append_left hi] at a
     rw [List.getElem?_append_left hj] at b
     exact h.udis i j u v k a b d e
   · rw [List.getElem?_append_right (by omega)] at b
     have hjl := (List.getElem?_eq_some_iff.1 b).1
     have : v = .slice none 0 0 := by
      have := List.mem_of_getElem? b
      simpa using this
     rw [this] at e; simp [Value.ownBlock] at e
   · rw [List.getElem?_append_right (by omega)] at a
     have : u = .slice none 0 0 := by
      have := List.mem_of_getElem? a
      simpa using this
     rw [this] at d; simp [Value.ownBlock] at d
   · rw [List.getElem?_append_right (by omega)] at a
     have : u = .slice none 0 0 := by
      have := List.mem_of_getElem? a
      simpa using this
     rw [this] at d; simp [Value.ownBlock] at d
 · simp only [List.mem_cons, List.mem_append] at hk
   rcases hk with e | e | e
   · rw [e]; exact hx0
   · have e' : ov'.ownBlock = some k := by simpa using e
     rcases hf k e' with h1 | h1
     · exact h.t0 k (h.inO k h1)
     · have := h.below.size; omega
   · exact h.t0 k e
 · simp only [List.mem_cons, List.mem_append] at hm
   rcases hm with (e | e | e) | e
   · exact sxx e
   · exact hso' (by simpa using e)
   · exact h.sx (by simp [e])
   · exact h.sx (by simp [e])
 · simp only [List.mem_cons, List.mem_append] at hk
   rcases hk with e | e | e
   · exact hxs (e ▸ hm)
   · have e' : ov'.ownBlock = some k := by simpa using e
     rcases hf k e' with h1 | h1
     · exact h.tbx k (h.inO k h1) (by simp [hm])
     · have := hl k (by simp [hm]); omega
   · exact h.tbx k e (by simp [hm])
def beginRc (n : Nat) : Enc.Rc := ⟨1, (n : Int), 0, 0, 0, 0, [], [], [], [], 0⟩
def St.begun (S : St) : St := { S.setR { S.R with held := S.R.held ++ (beginRc S.next).enc } with txs := S.txs ++ [⟨S.next, S.R.tail + 1, S.R.tail + 1, []⟩], next := S.next + 1 }
theorem rec_begin (W : World) (n : Nat) : Enc.RecVal W (.agg #[.int .i64 1, .int .i64 (n : Int), .int .i64 0, .int .i64 0, .int .i64 0, .int .i64 0, .slice none 0 0, .slice none 0 0, .slice none 0 0, .slice none 0 0, .int .i64 0]) (beginRc n) :=
 ⟨_, _, _, _, rfl, Enc.Row.nil W, Enc.Row.nil W, Enc.Row.nil W, Enc.Row.nil W⟩
set_option maxHeartbeats 4000000 in
set_option maxRecDepth 100000 in
theorem begin_mk (Pr : St → Prop) (N m : Nat) {ao : Option Addr} {cc : Nat} (hsl : s < w.heap.size) (c10 : w.cell? ⟨s, 10, none⟩ = some (.bool false)) (c5 : w.cell? ⟨s, 5, none⟩ = some (.int .i64 (N : Int))) (hxl : ∀ k ∈ xs, k < w.heap.size) (htx : ∀ k, (Value.slice ao m cc).ownBlock = some k → k ∉ xs) (hsx : s ∉ xs) (hnx : N ≤ 1000000000) (hfew : m < 1000)
 (hmk : ∀ W Q, Below w.heap.size w W → w.heap.size ≤ Q → Q < W.heap.size → Calls Tryz.prog 28 #[.pointer (some ⟨s, 0, none⟩), .int .i64 ((288 : Nat) : Int)] W fun e w' => e = .returned (.int .i64 0) ∧ ∃ S : St, Pr S ∧ S.next = N ∧ S.txs.length = m ∧ StIs w0 w' s c (Q :: xs) tb (.slice ao m cc) ps uvs S ∧ 288 + S.res + 2048 ≤ S.R.room ∧ Kept xs w w' ∧ Kept [Q] W w') :
 Calls Tryz.prog 10 #[.pointer (some ⟨s, 0, none⟩)] w fun e w' => e = .returned (.tuple #[.int .i64 (N : Int), .int .i64 0]) ∧ (∃ S', Pr S' ∧ StAt w0 w' s c xs S'.begun) ∧ Kept xs w w' := by
 have HSZ := hide (fun W => Enc.size_any (rec_begin W N) (by show 96 + 0 + 0 + 24 * 0 + 16 * 0 ≤ _; omega))
 have HMK := hide hmk
 have HTX := hide htx
 have HSX := hide hsx
 have HXLT := hide hxl
 clear hmk htx hsx hxl
 go_enter Tryz.func10, Tryz.ntmps10
 go_wp2_with fail
 refine (HSZ.out _).mono ?_
 rintro e wA ⟨rfl, hwA⟩
 have hBA : Below w.heap.size w wA := by rw [hwA]; exact ((Below.refl _ w).alloc (Nat.le_refl _) _).alloc (by simp) _
 have hqA : wA.heap[w.heap.size]? = some (.cells #[.int .i64 1, .int .i64 (N : Int), .int .i64 0, .int .i64 0, .int .i64 0, .int .i64 0, .slice none 0 0, .slice none 0 0, .slice none 0 0, .slice none 0 0, .int .i64 0] 69 (0, 0)) := by
  rw [hwA, Below.heap_alloc _ _ _ (by simp)]; exact heap_alloc_new _ _
 clear hwA
 have e96 : ((beginRc N).size : Int) = 96 := rfl
 rw [e96]
 clear e96
 go_wp2_with fail
 have hQl : w.heap.size < wA.heap.size := (Array.getElem?_eq_some_iff.1 hqA).1
 refine (HMK.out wA w.heap.size hBA (Nat.le_refl _) hQl).mono ?_
 rintro e wB ⟨rfl, S, hPr, hSN, hSm, hSB, hSR, hKx, hKQ⟩
 subst hSN
 subst hSm
 obtain ⟨Q, hQ⟩ : ∃ Q, w.heap.size = Q := ⟨_, rfl⟩
 have hqB : wB.heap[Q]? = some (.cells #[.int .i64 1, .int .i64 (S.next : Int), .int .i64 0, .int .i64 0, .int .i64 0, .int .i64 0, .slice none 0 0, .slice none 0 0, .slice none 0 0, .slice none 0 0, .int .i64 0] 69 (0, 0)) := by rw [← hQ]; exact (hKQ.2 _ (by simp)).trans hqA
 have HRM := hide hSR
 have HPR := hide hPr
 clear hPr
 have HKX := hide hKx
 have hn1 := hfew
 have HFEW := hide hfew
 rw [hQ]
 have q0 : wB.cell? ⟨Q, 0, none⟩ = some (.int .i64 1) := by rw [cell_of_row wB Q 0 _ _ _ hqB]; rfl
 have q1 : wB.cell? ⟨Q, 1, none⟩ = some (.int .i64 (S.next : Int)) := by rw [cell_of_row wB Q 1 _ _ _ hqB]; rfl
 have q2 : wB.cell? ⟨Q, 2, none⟩ = some (.int .i64 0) := by rw [cell_of_row wB Q 2 _ _ _ hqB]; rfl
 have q3 : wB.cell? ⟨Q, 3, none⟩ = some (.int .i64 0) := by rw [cell_of_row wB Q 3 _ _ _ hqB]; rfl
 have q4 : wB.cell? ⟨Q, 4, none⟩ = some (.int .i64 0) := by rw [cell_of_row wB Q 4 _ _ _ hqB]; rfl
 have q5 : wB.cell? ⟨Q, 5, none⟩ = some (.int .i64 0) := by rw [cell_of_row wB Q 5 _ _ _ hqB]; rfl
 have q6 : wB.cell? ⟨Q, 6, none⟩ = some (.slice none 0 0) := by rw [cell_of_row wB Q 6 _ _ _ hqB]; rfl
 have q7 : wB.cell? ⟨Q, 7, none⟩ = some (.slice none 0 0) := by rw [cell_of_row wB Q 7 _ _ _ hqB]; rfl
 have q8 : wB.cell? ⟨Q, 8, none⟩ = some (.slice none 0 0) := by rw [cell_of_row wB Q 8 _ _ _ hqB]; rfl
 have q9 : wB.cell? ⟨Q, 9, none⟩ = some (.slice none 0 0) := by rw [cell_of_row wB Q 9 _ _ _ hqB]; rfl
 have q10 : wB.cell? ⟨Q, 10, none⟩ = some (.int .i64 0) := by rw [cell_of_row wB Q 10 _ _ _ hqB]; rfl
 have HSB := hide hSB
 rw [hQ] at HSB
 have HTB2 := hide (tell_ok HSB.out (rec_begin wB S.next) (by show 96 + 0 + 0 + 24 * 0 + 16 * 0 ≤ _; omega) ⟨fun y hy => by simp only [Enc.Rc.head, beginRc, List.mem_cons, List.not_mem_nil, or_false] at hy; rcases hy with rfl | rfl | rfl | rfl | rfl | rfl <;> omega, by simp [beginRc], by simp [beginRc], by simp [beginRc]⟩ (by show 96 + 0 + 0 + 24 * 0 + 16 * 0 ≤ _; have := HRM.out; omega))
 obtain ⟨L, hL⟩ : ∃ L : Nat, S.R.tail + 1 = L := ⟨_, rfl⟩
 rw [hL] at HTB2
 have HL := hide hL
 have HQ := hide hQ
 have HQB := hide hqB
 clear hBA hqA hqB hQl HMK HSZ hL c10 c5 hSB hSR hKx hKQ hfew
 go_wp2_with fail
 refine HTB2.out.mono ?_
 rintro e W2 ⟨rfl, h2, hK2⟩
 have q12 : W2.cell? ⟨Q, 1, none⟩ = some (.int .i64 (S.next : Int)) := (World.cell?_of_block (a := ⟨Q, 1, none⟩) (hK2.2 Q (by simp))).trans q1
 have k42 := h2.c4
 have k52 : W2.cell? ⟨s, 5, none⟩ = some (.int .i64 (S.next : Int)) := h2.c5
 have HK2 : Hid (Kept xs w W2) := Kept.trans HKX.out ⟨hK2.1, fun k hk => hK2.2 k (by simp [hk])⟩
 obtain ⟨X, hX⟩ : ∃ X, W2.heap.size = X := ⟨_, rfl⟩
 obtain ⟨W3, hW3⟩ : ∃ W3, (W2.drewN 1).alloc (.cells #[.int .i64 (S.next : Int), .int .i64 (L : Int), .int .i64 (L : Int), .slice none 0 0] 75) = W3 := ⟨_, rfl⟩
 have b3 : Below W2.heap.size W2 W3 := by rw [← hW3]; exact (below_drewN _ W2 1).alloc (Nat.le_refl _) _
 have z3 : W3.heap.size = X + 1 := by rw [← hW3, ← hX]; simp
 have x3 : W3.heap[X]? = some (.cells #[.int .i64 (S.next : Int), .int .i64 (L : Int), .int .i64 (L : Int), .slice none 0 0] 75 (0, 0)) := by rw [← hW3, ← hX]; exact heap_alloc_new (W2.drewN 1) _
 obtain ⟨W4, hW4⟩ : ∃ W4, W3.alloc (.cells #[.pointer (some ⟨X, 0, none⟩)] 72) = W4 := ⟨_, rfl⟩
 have b4 : Below W3.heap.size W3 W4 := by rw [← hW4]; exact (Below.refl _ _).alloc (Nat.le_refl _) _
 have z4 : W4.heap.size = X + 2 := by rw [← hW4]; simp [z3]
 have g4 : W4.heap[W3.heap.size]? = some (.cells #[.pointer (some ⟨X, 0, none⟩)] 72 (0, 0)) := by rw [← hW4]; exact heap_alloc_new W3 _
 have b24 : Below W2.heap.size W2 W4 := b3.trans (b4.mono b3.size)
 have hs2 : s < W2.heap.size := h2.lts (by simp)
 have hq2 : Q < W2.heap.size := h2.lts (by simp)
 have h4 := h2.mindNew (ys := X :: xs) b24 (fun k hk => by
  rcases List.mem_cons.1 hk with e | e
  · exact .inr ⟨by omega, by omega⟩
  · exact .inl (by simp [e]))
 have HBOX : Hid (∀ (ρ : Operand → Value) (o : Oper) (y : Operand), o.op = .box 75 y → ρ y = .agg #[.int .i64 (S.next : Int), .int .i64 (L : Int), .int .i64 (L : Int), .slice none 0 0] → (execOp ρ o).run Tryz.prog (W2.drewN 1) = .ok (.value (.pointer (some ⟨X, 0, none⟩))) W3) := fun ρ o y h1 h3 => by
  rw [← hW3, ← hX]
  unfold execOp
  simp only [h1, h3]
  kernel_rfl
 have HBS : Hid ((do pure (Next.value (← Instr.buildSlice 63 1 #[(0, .pointer (some ⟨X, 0, none⟩))])) : Sem Next).run Tryz.prog W3 = .ok (.value (.slice (some ⟨W3.heap.size, 0, none⟩) 1 1)) W4) := by
  show _ = _
  rw [← hW4]
  kernel_rfl
 have hS3 : W3.cell? ⟨s, 5, none⟩ = some (.int .i64 (S.next : Int)) := (b3.cell (p := ⟨s, 5, none⟩) hs2).trans k52
 have hS4 : W4.cell? ⟨s, 5, none⟩ = some (.int .i64 (S.next : Int)) := (b24.cell (p := ⟨s, 5, none⟩) hs2).trans k52
 have k43 : W3.cell? ⟨s, 4, none⟩ = some (.slice ao S.txs.length cc) := (b3.cell (p := ⟨s, 4, none⟩) hs2).trans k42
 have k44 : W4.cell? ⟨s, 4, none⟩ = some (.slice ao S.txs.length cc) := (b24.cell (p := ⟨s, 4, none⟩) hs2).trans k42
 have q14 : W4.cell? ⟨Q, 1, none⟩ = some (.int .i64 (S.next : Int)) := (b24.cell (p := ⟨Q, 1, none⟩) hq2).trans q12
 have HFZ4 : Hid (W4.frozen? ⟨s, 4, none⟩ = false) := h4.fz 4
 have HHD4 : Hid (W4.heap[s]? = _) := h4.head
 have HOW4 : Hid (W4.ownsRow 0 72 1 (.slice ao S.txs.length cc) S.txs.length (ptrs ps)) := by have := h4.own; exact this
 have HSRC : Hid (∀ j u, ([.pointer (some ⟨X, 0, none⟩)] : List Value)[j]? = some u → W4.cell? ((⟨W3.heap.size, 0, none⟩ : Addr).add j) = some u) := src_of_block (X := [.pointer (some ⟨X, 0, none⟩)]) g4
 have HSL4 : Hid (s < W4.heap.size) := by show s < _; omega
 have HQL4 : Hid (Q < W4.heap.size) := by show Q < _; omega
 have HQS : Hid (¬ Q = s) := fun e => by have := HQ.out; omega
 have HNS : Hid ((Value.slice ao S.txs.length cc).ownBlock ≠ some s) := fun e => h4.sx (by simp [h4.inO s e])
 have HQO : Hid ((Value.slice ao S.txs.length cc).ownBlock ≠ some Q) := fun e => by have h9 := h2.tbx Q (h2.inO Q e); exact h9 (by simp)
 have HX4 : Hid (W4.heap[X]? = some (.cells #[.int .i64 (S.next : Int), .int .i64 (L : Int), .int .i64 (L : Int), .slice none 0 0] 75 (0, 0))) := (b4.block X (by omega)).trans x3
 have HX1 : Hid (X ∉ xs) := fun hm => by have := HXLT.out X hm; have := HK2.out.1; omega
 have HX2 : Hid (X ∉ tb) := fun hm => by have := h2.lts (k := X) (by simp [hm]); omega
 have HX3 : Hid (w0.heap.size ≤ X) := by have := h2.below.size; show _ ≤ _; omega
 have HH4 := hide h4
 have HB4 := hide b24
 clear h2 hK2 h4 b3 b4 b24 x3 g4 hW3 hW4 q0 q1 q2 q3 q4 q5 q6 q7 q8 q9 q10 HTB2 HSB HQB q12
 go_wp2_with fail
 refine wp_region_held_drew (S := fun w' => w'.cell? ⟨s, 5, none⟩ = some (.int .i64 (S.next : Int))) (by kernel_rfl) k52 (fun hH => ?_)
 refine take_to 0 34 (.pointer (some ⟨s, 0, none⟩)) rfl (by kernel_rfl) (by kernel_rfl) (by kernel_rfl) (fun _ _ _ h => h) rfl (by rfl) (fun w hw => by rfl) hH ?_
 simp only [Act.put, zA, zB, zC]
 refine take_to 1 35 (.pointer (some ⟨s, 0, none⟩)) rfl (by kernel_rfl) (by kernel_rfl) (by kernel_rfl) (fun _ _ _ h => h) rfl (by rfl) (fun w hw => by rfl) hH ?_
 simp only [Act.put, zA, zB, zC]
 refine take_to 2 36 (.pointer (some ⟨s, 0, none⟩)) rfl (by kernel_rfl) (by kernel_rfl) (by kernel_rfl) (fun _ _ _ h => h) rfl (by rfl) (fun w hw => by rfl) hH ?_
 simp only [Act.put, zA, zB, zC]
 refine take_to 3 37 (.pointer (some ⟨s, 4, none⟩)) rfl (by kernel_rfl) (by kernel_rfl) (by kernel_rfl) (fun _ _ _ h => h) rfl (by rfl) (fun w hw => by rfl) hH ?_
 simp only [Act.put, zA, zB, zC]
 refine take_to 5 39 (.pointer (some ⟨s, 0, none⟩)) rfl (by kernel_rfl) (by kernel_rfl) (by kernel_rfl) (fun _ _ _ h => h) rfl (by rfl) (fun w hw => by rfl) hH ?_
 simp only [Act.put, zA, zB, zC]
 refine take_to 6 40 (.pointer (some ⟨s, 0, none⟩)) rfl (by kernel_rfl) (by kernel_rfl) (by kernel_rfl) (fun _ _ _ h => h) rfl (by rfl) (fun w hw => by rfl) hH ?_
 simp only [Act.put, zA, zB, zC]
 refine take_to 7 41 (.pointer (some ⟨s, 5, none⟩)) rfl (by kernel_rfl) (by kernel_rfl) (by kernel_rfl) (fun _ _ _ h => h) rfl (by rfl) (fun w hw => by rfl) hH ?_
 simp only [Act.put, zA, zB, zC]
 refine take_to 8 42 (.int .i64 (S.next : Int)) rfl (by kernel_rfl) (by kernel_rfl) (by kernel_rfl) (fun _ _ _ h => h) rfl (by rfl) (fun w hw => op_load _ _ 3 (.tmp 41) rfl (.pointer (some ⟨s, 5, none⟩)) _ rfl (run_loadAny w s 5 3 _ Tryz.isAgg3 hw)) hH ?_
 simp only [Act.put, zA, zB, zC]
 refine take_to 9 43 (.int .i64 (L : Int)) rfl (by kernel_rfl) (by kernel_rfl) (by kernel_rfl) (fun _ _ _ h => h) rfl (by rfl) (fun w hw => by rfl) hH ?_
 simp only [Act.put, zA, zB, zC]
 refine take_to 10 44 (.int .i64 (L : Int)) rfl (by kernel_rfl) (by kernel_rfl) (by kernel_rfl) (fun _ _ _ h => h) rfl (by rfl) (fun w hw => by rfl) hH ?_
 simp only [Act.put, zA, zB, zC]
 refine take_to 11 45 (.agg #[.int .i64 (S.next : Int), .int .i64 (L : Int), .int .i64 (L : Int), .slice none 0 0]) rfl (by kernel_rfl) (by kernel_rfl) (by kernel_rfl) (fun _ _ _ h => h) rfl (by rfl) (fun w hw => by kernel_rfl) hH ?_
 simp only [Act.put, zA, zB, zC]
 refine wpAnyH_all (rs := [4, 12]) (by kernel_rfl) (by simp) ?_
 intro m hm
 rcases (by simpa using hm : m = 4 ∨ m = 12) with rfl | rfl
 refine op_to 38 (.slice ao S.txs.length cc) _ rfl rfl (by rfl) (op_load _ _ 63 (.tmp 37) rfl (.pointer (some ⟨s, 4, none⟩)) _ rfl (run_loadAny _ s 4 63 _ Tryz.isAgg63 k42)) ⟨hH, ?_⟩
 simp only [Act.put, zA, zB, zC]
 refine step_to 12 46 (.pointer (some ⟨X, 0, none⟩)) W3 rfl (by kernel_rfl) rfl (by rfl) (HBOX.out _ _ _ rfl rfl) hS3 ?_
 simp only [Act.put, zA, zB, zC]
 refine step_to 13 47 (.slice (some ⟨W3.heap.size, 0, none⟩) 1 1) W4 rfl (by kernel_rfl) rfl (by rfl) (by rw [Enc.buildSlice_op _ _ 63 1 0 (.tmp 46) rfl _ rfl]; exact HBS.out) hS4 ?_
 simp only [Act.put, zA, zB, zC]
 rotate_left
 refine op_to 46 (.pointer (some ⟨X, 0, none⟩)) W3 rfl rfl (by rfl) (HBOX.out _ _ _ rfl rfl) ⟨hS3, ?_⟩
 simp only [Act.put, zA, zB, zC]
 refine wpAnyH_all (rs := [4, 13]) (by kernel_rfl) (by simp) ?_
 intro m hm
 rcases (by simpa using hm : m = 4 ∨ m = 13) with rfl | rfl
 refine op_to 38 (.slice ao S.txs.length cc) _ rfl rfl (by rfl) (op_load _ _ 63 (.tmp 37) rfl (.pointer (some ⟨s, 4, none⟩)) _ rfl (run_loadAny _ s 4 63 _ Tryz.isAgg63 k43)) ⟨hS3, ?_⟩
 simp only [Act.put, zA, zB, zC]
 refine step_to 13 47 (.slice (some ⟨W3.heap.size, 0, none⟩) 1 1) W4 rfl (by kernel_rfl) rfl (by rfl) (by rw [Enc.buildSlice_op _ _ 63 1 0 (.tmp 46) rfl _ rfl]; exact HBS.out) hS4 ?_
 simp only [Act.put, zA, zB, zC]
 rotate_left
 refine op_to 47 (.slice (some ⟨W3.heap.size, 0, none⟩) 1 1) W4 rfl rfl (by rfl) (by rw [Enc.buildSlice_op _ _ 63 1 0 (.tmp 46) rfl _ rfl]; exact HBS.out) ⟨hS4, ?_⟩
 simp only [Act.put, zA, zB, zC]
 refine step_to 4 38 (.slice ao S.txs.length cc) _ rfl (by kernel_rfl) rfl (by rfl) (op_load _ _ 63 (.tmp 37) rfl (.pointer (some ⟨s, 4, none⟩)) _ rfl (run_loadAny _ s 4 63 _ Tryz.isAgg63 k44)) hS4 ?_
 simp only [Act.put, zA, zB, zC]
 all_goals
  refine step_append_to 14 48 rfl (by kernel_rfl) rfl rfl (.tmp 38) (.tmp 47) 63 rfl 72 (.pointer none) 1 8 Tryz.underlying63 Tryz.info72 rfl (by omega) (.slice ao S.txs.length cc) S.txs.length (ptrs ps) rfl HOW4.out ⟨W3.heap.size, 0, none⟩ 1 1 [.pointer (some ⟨X, 0, none⟩)] rfl rfl HSRC.out (by intro u hu; simp at hu; rw [hu]; rfl) (by simp only [maxLen]; omega) (by omega) ?_
  intro v5 w5 ho5 hg5 hf5
  have k55 : w5.cell? ⟨s, 5, none⟩ = some (.int .i64 (S.next : Int)) := (World.cell?_of_block (a := ⟨s, 5, none⟩) (hg5.block s HSL4.out (fun e => HNS.out e.symm))).trans hS4
  refine ⟨k55, ?_⟩
  simp only [Act.put, zA, zB, zC]
  refine step_to 15 49 (.pointer (some ⟨s, 0, none⟩)) w5 rfl (by kernel_rfl) rfl (by rfl) rfl k55 ?_
  simp only [Act.put, zA, zB, zC]
  refine step_to 16 50 (.pointer (some ⟨s, 4, none⟩)) w5 rfl (by kernel_rfl) rfl (by rfl) (by kernel_rfl) k55 ?_
  simp only [Act.put, zA, zB, zC]
  obtain ⟨ao5, n5, cc5, hv5⟩ := own_form ho5
  have hb5 := hg5.block s HSL4.out (fun e => HNS.out e.symm)
  have k45 : w5.cell? ⟨s, 4, none⟩ = some (.slice ao S.txs.length cc) := (World.cell?_of_block (a := ⟨s, 4, none⟩) hb5).trans k44
  have f45 : w5.frozen? ⟨s, 4, none⟩ = false := (World.frozen?_of_block (a := ⟨s, 4, none⟩) hb5).trans HFZ4.out
  have hst := run_store63 w5 s _ ao5 n5 cc5 k45 f45
  rw [← hv5] at hst
  have k56 : (w5.setCell ⟨s, 4, none⟩ v5).cell? ⟨s, 5, none⟩ = some (.int .i64 (S.next : Int)) := by
   rw [cell_of_row _ s 5 _ _ _ (heap_setCell_same w5 s 4 _ _ v5 (hb5.trans HHD4.out))]; rfl
  refine step_store_to 17 _ rfl (by kernel_rfl) rfl (by rfl) 63 (.tmp 50) (.tmp 48) rfl _ _ rfl rfl hst k56 ?_
  refine wpAnyH_done (by kernel_rfl) ?_ _
  have h6 := HH4.out.addTx (x := X) (T := ⟨S.next, L, L, []⟩) (ov' := v5) hg5 ho5 hf5 HX4.out rfl HX1.out HX2.out HFEW.out HX3.out
  have H6 := hide h6
  have HG5 := hide hg5
  have f56 : (w5.setCell ⟨s, 4, none⟩ v5).frozen? ⟨s, 5, none⟩ = false := by obtain ⟨tb6, y6⟩ := h6; exact y6.fz 5
  clear h6 ho5 hg5 hf5 hv5 hst k45 f45 hb5 k55 hH hS3 hS4 k42 k43 k44
  have hnx : IntKind.i64.wrap ((S.next : Int) + 1) = (S.next : Int) + 1 := by rw [IntKind.wrap_i64]; omega
  have q1f : (w5.setCell ⟨s, 4, none⟩ v5).cell? ⟨Q, 1, none⟩ = some (.int .i64 (S.next : Int)) := by
   rw [World.cell?_of_block (a := ⟨Q, 1, none⟩) (heap_setCell_other w5 _ Q v5 HQS.out), World.cell?_of_block (a := ⟨Q, 1, none⟩) (HG5.out.block Q HQL4.out (fun e => HQO.out e.symm))]
   exact q14
  have HW6 : Hid (Off [s] w5 (w5.setCell ⟨s, 4, none⟩ v5)) := (Off.refl _ _).setCell _ _ (by simp)
  obtain ⟨w6, hw6⟩ : ∃ w6, w5.setCell ⟨s, 4, none⟩ v5 = w6 := ⟨_, rfl⟩
  rw [hw6] at H6 HW6 k56 f56 q1f ⊢
  clear hw6
  go_wp2_with fail
  go_ret2
  refine ⟨rfl, ⟨S, HPR.out, ?_⟩, ?_⟩
  · unfold St.begun
    obtain ⟨tb6, y6⟩ := H6.out
    refine (y6.setS (S' := { S.setR { S.R with held := S.R.held ++ (beginRc S.next).enc } with txs := S.txs ++ [⟨S.next, S.R.tail + 1, S.R.tail + 1, []⟩], next := S.next + 1 }) rfl (by rw [HL.out]; rfl) ((Off.refl _ w6).setCell _ _ (by simp)) ?_).at
    rw [heap_setCell_same w6 s 5 _ _ _ y6.head]
    rfl
  · refine (HK2.out.trans ⟨Nat.le_trans HB4.out.size (Nat.le_trans HG5.out.size HW6.out.size), fun k hk => ?_⟩).trans ⟨by simp [World.setCell], fun k hk => heap_setCell_other w6 _ k _ (fun e => HSX.out (by simpa [e] using hk))⟩
    have hkl := HXLT.out k hk
    have hk2 : k < W2.heap.size := Nat.lt_of_lt_of_le hkl HK2.out.1
    rw [HW6.out.block k (Nat.lt_of_lt_of_le hk2 (Nat.le_trans HB4.out.size HG5.out.size)) (fun hm => by simp at hm; exact HSX.out (hm ▸ hk)), HG5.out.block k (Nat.lt_of_lt_of_le hk2 HB4.out.size) (fun e => HTX.out k e.symm hk), HB4.out.block k hk2]
set_option maxHeartbeats 400000 in
theorem begin_ok (h : StIs w0 w s c xs tb ov ps uvs S) (hb : S.res ≤ 1000000000) (hroom : 288 + S.res + 2048 ≤ S.R.room) (hnx : S.next ≤ 1000000000) (hfew : S.txs.length < 1000) :
 Calls Tryz.prog 10 #[.pointer (some ⟨s, 0, none⟩)] w fun e w' => e = .returned (.tuple #[.int .i64 (S.next : Int), .int .i64 0]) ∧ StAt w0 w' s c xs S.begun ∧ Kept xs w w' := by
 obtain ⟨ao, cc, rfl⟩ := h.ovlen
 refine (begin_mk (w0 := w0) (c := c) (tb := tb) (ps := ps) (uvs := uvs) (· = S) S.next S.txs.length (h.lts (by simp)) h.c10 h.c5 (fun k hk => h.lt hk) (fun k hk hm => h.tbx k (h.inO k hk) hm) (fun hm => h.sx (by simp [hm])) hnx hfew (fun W Q hW hQ1 hQ2 => ?_)).mono ?_
 · refine (makeRoom_ok (h.belowW hW) hb 288 (by omega) hroom).mono ?_
   rintro e w' ⟨rfl, hB⟩
   have hq := h.mindNew (ys := Q :: xs) hW (fun k hk => by
    rcases List.mem_cons.1 hk with e | e
    · rw [e]; exact .inr ⟨hQ1, hQ2⟩
    · exact .inl e)
   exact ⟨rfl, S, rfl, rfl, rfl, hq.belowW hB, hroom, Kept.trans ⟨hW.size, fun k hk => hW.block k (h.lt hk)⟩ ⟨hB.size, fun k hk => hB.block k (Nat.lt_of_lt_of_le (h.lt hk) hW.size)⟩, ⟨hB.size, fun k hk => by
    simp only [List.mem_singleton] at hk
    rw [hk]
    exact hB.block Q hQ2⟩⟩
 · rintro e w' ⟨rfl, ⟨S', rfl, h1⟩, h2⟩
   exact ⟨rfl, h1, h2⟩
end
end Go.Proofs.YteeembildppgmaaGreat
