/- The pass of redo. -/
import Derived.Test.YtpjppolbkdnkaaaOldest
namespace Go.Proofs.Ytpjppolbkdnkaaa
open Go.RowKit
set_option linter.unusedVariables false
set_option linter.unusedSimpArgs false

def againN (A : Ask) (f : Int → Option Int) (s : (Int → Option Int) × List Int) (L : List Ln) : (Int → Option Int) × List Int := L.foldl (again1 A f) s
theorem againN_snoc (A : Ask) (f : Int → Option Int) (s : (Int → Option Int) × List Int) (L : List Ln) (x : Ln) : againN A f s (L ++ [x]) = again1 A f (againN A f s L) x := by unfold againN; rw [List.foldl_append]; rfl
theorem again1_length (A : Ask) (f : Int → Option Int) (s : (Int → Option Int) × List Int) (x : Ln) : (again1 A f s x).2.length ≤ s.2.length + 1 := by
  unfold again1
  split
  · split
    · simp
    · simp
  · simp
theorem againN_length (A : Ask) (f : Int → Option Int) : ∀ (L : List Ln) (s : (Int → Option Int) × List Int), (againN A f s L).2.length ≤ s.2.length + L.length
  | [], s => by simp [againN]
  | x :: L, s => by
    have h1 := againN_length A f L (again1 A f s x)
    have h2 := again1_length A f s x
    have e : againN A f s (x :: L) = againN A f (again1 A f s x) L := rfl
    rw [e, List.length_cons]
    omega
/-- A line older than every page's first change is passed by. -/
theorem again1_old (A : Ask) (f : Int → Option Int) (s : (Int → Option Int) × List Int) (x : Ln) (hx : x.ok) (h : ∀ p v, In64 p → f p = some v → x.lsn < v) : again1 A f s x = s := by
  unfold again1
  rw [if_neg]
  rintro ⟨_, h1, h2⟩
  obtain ⟨v, hv⟩ := Option.isSome_iff_exists.1 h1
  have := h x.page v hx.page hv
  rw [hv] at h2
  simp at h2
  omega
theorem againN_drop (A : Ask) (f : Int → Option Int) (s : (Int → Option Int) × List Int) (k : Nat) : ∀ (L : List Ln) (_ : ∀ x ∈ L, x.ok) (_ : ∀ (i : Nat) (x : Ln), L[i]? = some x → i < k → ∀ p v, In64 p → f p = some v → x.lsn < v), againN A f s (L.drop k) = againN A f s L := by
  induction k with
  | zero => intro L _ _; rfl
  | succ k ih =>
    intro L hok h
    cases L with
    | nil => rfl
    | cons x L =>
      have e : againN A f s (x :: L) = againN A f (again1 A f s x) L := rfl
      rw [e, again1_old A f s x (hok x (by simp)) (h 0 x rfl (by omega))]
      exact ih L (fun y hy => hok y (by simp [hy])) (fun i y hy hi => h (i + 1) y hy (by omega))
theorem LinesAt.ok {w : World} {a : Option Addr} {L : List Ln} (h : LinesAt w a L) : ∀ x ∈ L, x.ok := fun x hx => by
  obtain ⟨i, hi, rfl⟩ := List.mem_iff_getElem.1 hx
  exact (h.2 i _ (List.getElem?_eq_getElem hi)).1
theorem RedoIs.stayB {A : Ask} {w0 w w' : World} {R bd bh n m : Nat} {lg : Sv} {red : Value} {f h : Int → Option Int} {out : List Int} (x : RedoIs A w0 w R bd bh n m lg red f h out) (hb : Below w.heap.size w w') : RedoIs A w0 w' R bd bh n m lg red f h out := x.stayD hb

set_option maxHeartbeats 2000000 in
set_option maxRecDepth 100000 in
theorem passR_any {A : Ask} {w0 w : World} {R bd bh n m : Nat} {lg : Sv} {red : Value} {f h : Int → Option Int} {out : List Int} (X : RedoIs A w0 w R bd bh n m lg red f h out) (L : List Ln) (hln : lg.n = L.length) (hcap : L.length ≤ lg.c) (hla : lg.a = none → L = [] ∧ lg.c = 0) (hla2 : ∀ a, lg.a = some a → L ≠ [] → ∃ b o, a = ⟨b, o, none⟩)
    (hL : LinesAt w0 lg.a L) (hR : Rises L) (hn : n ≤ 1000000000) (hm : m + 2 * L.length ≤ 800000) (ho : out.length + L.length ≤ 800000) :
    Calls Try.prog 20 #[.pointer (some ⟨R, 0, none⟩), .int .i64 1] w fun e w' => e = .returned (.tuple #[]) ∧ ∃ red' m', RedoIs A w0 w' R bd bh n m' lg red' f (againN A f (h, out) L).1 (againN A f (h, out) L).2 := by
  have HOLD := hide (oldest_any w R bd n lg.a lg.c L f (by rw [← hln]; exact X.c0) hcap hla hla2 X.c2 X.md hn (hL.below X.below) hR)
  have HX := hide X
  have HL := hide hL
  clear X hL hR hln hcap hla hla2
  go_enter Try.func20, Try.ntmps20
  go_wp2
  refine wp_scope_fwd 1 ?_
  go_wp2
  go_step3
  refine ⟨_, rfl, ?_⟩
  go_wp2_with (go_at_call 40; refine HOLD.out.mono ?_; rintro e w1 ⟨a, c, k, rfl, h1, h2, h3⟩
               obtain ⟨K, hK⟩ : ∃ K, L.drop k = K := ⟨_, rfl⟩
               rw [hK] at h1 ⊢
               obtain ⟨kn, hkn⟩ : ∃ kn, K.length = kn := ⟨_, rfl⟩
               rw [hkn])
  have hKL : kn ≤ L.length := by rw [← hkn, ← hK]; simp
  have HA : Hid (againN A f (h, out) L = againN A f (h, out) K) := by show _ = _; rw [← hK]; exact (againN_drop A f (h, out) k L HL.out.ok h2).symm
  have HK := hide (h1 w0 HL.out)
  have HKN := hide hkn
  have HX1 : Hid (RedoIs A w0 w1 R bd bh n m lg red f h out) := HX.out.stayD h3
  clear h1 h2 h3 hK HOLD HX HL hkn
  go_loopw [29] (fun i wr => ∃ (j m' : Nat) (red' : Value), j ≤ kn ∧ i = .int .i64 j ∧ m' ≤ m + 2 * j ∧ RedoIs A w0 wr R bd bh n m' lg red' f (againN A f (h, out) (K.take j)).1 (againN A f (h, out) (K.take j)).2) (fun i _ => kn - (iv i).toNat)
  case atStart => exact ⟨0, m, red, by omega, rfl, by omega, HX1.out⟩
  case round =>
    obtain ⟨j, m', red', hj, rfl, hm', hX⟩ := hrel
    have HX2 := hide hX
    by_cases hlt : j < kn
    · obtain ⟨x, hx⟩ : ∃ x, K[j]? = some x := ⟨_, List.getElem?_eq_getElem (by rw [HKN.out]; exact hlt)⟩
      obtain ⟨hok, b, o, hab, hbl, hrg⟩ := HK.out.2 j x hx
      subst hab
      have HRG : Hid (wr.rangeAt b (o + j * 12) (lnCells x)) := fun q v hv => (hX.below.cell (p := ⟨b, o + j * 12 + q, none⟩) hbl).trans (hrg q v hv)
      have HTK : Hid (againN A f (h, out) (K.take (j + 1)) = again1 A f (againN A f (h, out) (K.take j)) x) := by
        show _ = _
        obtain ⟨hl', hx'⟩ := List.getElem?_eq_some_iff.1 hx
        rw [← hx', ← againN_snoc, List.take_succ_eq_append_getElem hl']
      have hol : (againN A f (h, out) (K.take j)).2.length ≤ 1000000 := by
        have h1 := againN_length A f (K.take j) (h, out)
        have h2 : (K.take j).length ≤ kn := by rw [List.length_take, HKN.out]; omega
        have h3 : (h, out).2.length = out.length := rfl
        omega
      unfold lnCells recCells at HRG
      clear hX hrg hx
      obtain ⟨S, hS⟩ : ∃ S, againN A f (h, out) (K.take j) = S := ⟨_, rfl⟩
      rw [hS] at HX2 HTK hol
      clear hS
      go_upto_region 12 with (refine wpList_load_mid (by rfl) 34 _ (by rfl) b (o + j * 12) (by rfl) _ _ HRG.out Try.underlying34 rfl Try.size34n ?_)
      generalize hx1 : wr.alloc _ = x1
      have hG : x1.heap[wr.heap.size]? = some (.cells (lnCells x).toArray 34 (0, 0)) := by rw [← hx1]; exact heap_alloc_new _ _
      have HRG2 : Hid (x1.rangeAt wr.heap.size 0 (lnCells x)) := fun q v hv => by rw [Nat.zero_add, cell_of_row _ _ _ _ _ _ hG]; simpa using hv
      have HX3 : Hid (RedoIs A w0 x1 R bd bh n m' lg red' f S.1 S.2) := HX2.out.stayD (by rw [← hx1]; exact (Below.refl _ _).alloc (Nat.le_refl _) _)
      have HAG := hide (again_any HX3.out x hok (by omega) hol)
      unfold lnCells recCells at HAG HRG2
      clear hx1 hG HX2 HRG
      generalize wr.heap.size = g at *
      go_wp2_with (first
        | (refine wpList_load_mid (by rfl) 34 _ (by rfl) g 0 (by rfl) _ _ HRG2.out Try.underlying34 rfl Try.size34n ?_)
        | (go_at_call 41; refine HAG.out.mono ?_; rintro e x2 ⟨rfl, red2, m2, hm2, hX4⟩; have HX4 := hide hX4; clear hX4))
      go_roundw
      case rel =>
        refine ⟨j + 1, m2, red2, by omega, by go_num, by omega, ?_⟩
        rw [HTK.out]
        exact HX4.out
      case measure => simp [iv]; omega
    · obtain rfl : j = kn := by omega
      go_wp2
      rw [Exit.jumps_ret]
      refine bodyPost_ret (results_none rfl _ _ _) rfl ?_
      refine ⟨rfl, red', m', ?_⟩
      have e : K.take j = K := List.take_of_length_le (by rw [HKN.out]; omega)
      rw [e, ← HA.out] at HX2
      exact HX2.out
end Go.Proofs.Ytpjppolbkdnkaaa
