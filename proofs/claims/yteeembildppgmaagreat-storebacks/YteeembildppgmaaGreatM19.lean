/- A part of it: SRep SOps. -/
import Derived.Test.YteeembildppgmaaGreatM0
import Derived.Test.YteeembildppgmaaGreatM13
import Derived.Test.YteeembildppgmaaGreatM18
namespace Go.Proofs.YteeembildppgmaaGreat
open Go.RowKit
set_option linter.unusedVariables false
set_option linter.unusedSimpArgs false
structure Up where
 lsn : Nat
 next : Nat
 page : Nat
 off : Nat
 after : List UInt8
def Up.rc (u : Up) : Enc.Rc := ⟨3, 0, 0, u.next, u.page, u.off, [], u.after, [], [], 0⟩
structure Tn where
 id : Nat
 begin : Nat
 last : Nat
 ups : List Up
def upCells (u : Up) (v : Value) : List Value := [.int .i64 (u.lsn : Int), .int .i64 3, .int .i64 0, .int .i64 0, .int .i64 (u.next : Int), .int .i64 (u.page : Int), .int .i64 (u.off : Int), .slice none 0 0, v, .slice none 0 0, .slice none 0 0, .int .i64 0]
def upsRow (us : List Up) (vs : List Value) : List Value := (List.zipWith upCells us vs).flatten
theorem rows12 (us : List Up) (vs : List Value) : ∀ x ∈ List.zipWith upCells us vs, x.length = 12 := by
 intro x hx
 obtain ⟨i, hi, rfl⟩ := List.mem_iff_getElem.1 hx
 rw [List.getElem_zipWith]
 rfl
theorem upsRow_get (us : List Up) (vs : List Value) (h : vs.length = us.length) (i : Nat) (hi : i < us.length) (k : Nat) (hk : k < 12) : (upsRow us vs)[i * 12 + k]? = (upCells (us[i]'hi) (vs[i]'(by omega)))[k]? := by
 unfold upsRow
 rw [flat_get 12 _ (rows12 us vs) i (by rw [List.length_zipWith]; omega) k hk, List.getElem_zipWith]
theorem upsRow_snoc (us : List Up) (vs : List Value) (h : vs.length = us.length) (u : Up) (v : Value) : upsRow (us ++ [u]) (vs ++ [v]) = upsRow us vs ++ upCells u v := by
 unfold upsRow
 rw [List.zipWith_append h.symm, List.flatten_append]
 simp

structure TxIs (w : World) (tb : List Nat) (x : Nat) (T : Tn) (uv : Value) (vs : List Value) : Prop where
 head : w.heap[x]? = some (.cells #[.int .i64 (T.id : Int), .int .i64 (T.begin : Int), .int .i64 (T.last : Int), uv] 75 (0, 0))
 ups : w.ownsRow 0 107 12 uv T.ups.length (upsRow T.ups vs)
 vlen : vs.length = T.ups.length
 byt : ∀ (i : Nat) (u : Up) (v : Value), T.ups[i]? = some u → vs[i]? = some v → ∃ g c, v = .slice (some ⟨g, 0, none⟩) u.after.length c ∧ u.after.length ≤ c ∧ c ≤ 504 ∧ g ∈ tb ∧ SrcAt w g 0 u.after ∧ ∃ C, w.heap[g]? = some (.cells C 5 (0, 0))
 inX : x ∈ tb
 inU : ∀ k, uv.ownBlock = some k → k ∈ tb
theorem TxIs.keep {w w' : World} {tb tb' : List Nat} {x : Nat} {T : Tn} {uv : Value} {vs : List Value} (h : TxIs w tb x T uv vs) (hs : w.heap.size ≤ w'.heap.size) (hk : ∀ k ∈ tb, k ∈ tb' ∧ w'.heap[k]? = w.heap[k]?) : TxIs w' tb' x T uv vs :=
 ⟨by rw [(hk x h.inX).2]; exact h.head, owns_of_block h.ups (fun k e => (hk k (h.inU k e)).2), h.vlen, fun i u v h1 h2 => by
  obtain ⟨g, c, a1, a2, a3, a4, a5, C, a6⟩ := h.byt i u v h1 h2
  exact ⟨g, c, a1, a2, a3, (hk g a4).1, a5.of hs (hk g a4).2, C, by rw [(hk g a4).2]; exact a6⟩, (hk x h.inX).1, fun k e => (hk k (h.inU k e)).1⟩

structure Cf where
 r : Nat
 q : Nat
 p : Nat
 b : Nat
 lg : Nat
 n : Nat
 P : Nat
 G : Nat
@[reducible] def Cf.bk (c : Cf) : Back := stBack c.r c.q c.p c.b c.lg c.n
structure St where
 pool : Pl (Rg × List (List UInt8))
 txs : List Tn
 next : Nat
 commits : Nat
 master : Nat
 redone : Nat
 undone : Nat
def St.R (S : St) : Rg := S.pool.fo.1
def St.setR (S : St) (R : Rg) : St := { S with pool := { S.pool with fo := (R, S.pool.fo.2) } }
def ptrs (ps : List Nat) : List Value := ps.map fun x => .pointer (some ⟨x, 0, none⟩)
def stCells (c : Cf) (S : St) (ov : Value) : Array Value :=
 #[.pointer (some ⟨c.p, 0, none⟩), .pointer (some ⟨c.r, 0, none⟩), .pointer (some ⟨c.P, 0, none⟩), .int .i64 (c.n : Int), ov, .int .i64 (S.next : Int), .int .i64 (S.commits : Int), .int .i64 (S.master : Int), .int .i64 (S.redone : Int), .int .i64 (S.undone : Int), .bool false]
structure StIs (w0 w : World) (s : Nat) (c : Cf) (xs tb : List Nat) (ov : Value) (ps : List Nat) (uvs : List Value) (S : St) : Prop where
 pool : PoolAt c.bk w0 w c.P c.G (s :: (tb ++ xs)) S.pool
 head : w.heap[s]? = some (.cells (stCells c S ov) 65 (0, 0))
 own : w.ownsRow 0 72 1 ov S.txs.length (ptrs ps)
 plen : ps.length = S.txs.length
 ulen : uvs.length = S.txs.length
 tx : ∀ (i x : Nat) (T : Tn) (uv : Value), ps[i]? = some x → S.txs[i]? = some T → uvs[i]? = some uv → ∃ vs, TxIs w tb x T uv vs
 nodup : ∀ (i j x : Nat), ps[i]? = some x → ps[j]? = some x → i = j
 udis : ∀ (i j : Nat) (u v : Value) (k : Nat), uvs[i]? = some u → uvs[j]? = some v → u.ownBlock = some k → v.ownBlock = some k → i = j
 s0 : w0.heap.size ≤ s
 t0 : ∀ k ∈ tb, w0.heap.size ≤ k
 sx : s ∉ tb ++ xs
 tbx : ∀ k ∈ tb, k ∉ xs
 inO : ∀ k, ov.ownBlock = some k → k ∈ tb
 few : S.txs.length ≤ 1000
 lg2 : 2 ≤ c.lg
 n8 : c.n ≤ 8192
def StAt (w0 w : World) (s : Nat) (c : Cf) (xs : List Nat) (S : St) : Prop := ∃ tb ov ps uvs, StIs w0 w s c xs tb ov ps uvs S
section
variable {w0 w w' : World} {s : Nat} {c : Cf} {xs tb : List Nat} {ov : Value} {ps : List Nat} {uvs : List Value} {S : St}
theorem StIs.at (h : StIs w0 w s c xs tb ov ps uvs S) : StAt w0 w s c xs S := ⟨_, _, _, _, h⟩
theorem StIs.lts (h : StIs w0 w s c xs tb ov ps uvs S) {k : Nat} (hk : k ∈ s :: (tb ++ xs)) : k < w.heap.size := h.pool.lts hk
theorem StIs.lt (h : StIs w0 w s c xs tb ov ps uvs S) {k : Nat} (hk : k ∈ xs) : k < w.heap.size := h.lts (by simp [hk])
theorem StIs.below (h : StIs w0 w s c xs tb ov ps uvs S) : Below w0.heap.size w0 w := h.pool.below
theorem StIs.kept (h : StIs w0 w s c xs tb ov ps uvs S) (pl : Pl (Rg × List (List UInt8))) (hP : PoolAt c.bk w0 w' c.P c.G (s :: (tb ++ xs)) pl) (hK : Kept (s :: (tb ++ xs)) w w') : StIs w0 w' s c xs tb ov ps uvs { S with pool := pl } :=
 { h with
   pool := hP
   head := (hK.2 s (by simp)).trans h.head
   own := owns_of_block h.own (fun k e => hK.2 k (by simp [h.inO k e]))
   tx := fun i x T uv a b d => let ⟨vs, t⟩ := h.tx i x T uv a b d; ⟨vs, t.keep hK.1 (fun k hk => ⟨hk, hK.2 k (by simp [hk])⟩)⟩ }
theorem StIs.mindNew (h : StIs w0 w s c xs tb ov ps uvs S) (hb : Below w.heap.size w w') {ys : List Nat} (hy : ∀ k ∈ ys, k ∈ xs ∨ (w.heap.size ≤ k ∧ k < w'.heap.size)) : StIs w0 w' s c ys tb ov ps uvs S :=
 have hP : PoolAt c.bk w0 w' c.P c.G (s :: (tb ++ ys)) S.pool := h.pool.mindNew hb (fun k hk => by
  simp only [List.mem_cons, List.mem_append] at hk ⊢
  rcases hk with h1 | h1 | h1
  · exact .inl (.inl h1)
  · exact .inl (.inr (.inl h1))
  · rcases hy k h1 with h2 | h2
    · exact .inl (.inr (.inr h2))
    · exact .inr h2)
 have hK : ∀ k ∈ s :: (tb ++ xs), w'.heap[k]? = w.heap[k]? := fun k hk => hb.block k (h.lts hk)
 { h with
   pool := hP
   head := (hK s (by simp)).trans h.head
   own := owns_of_block h.own (fun k e => hK k (by simp [h.inO k e]))
   tx := fun i x T uv a b d => let ⟨vs, t⟩ := h.tx i x T uv a b d; ⟨vs, t.keep hb.size (fun k hk => ⟨hk, hK k (by simp [hk])⟩)⟩
   sx := fun hm => by
    rcases List.mem_append.1 hm with h1 | h1
    · exact h.sx (by simp [h1])
    · rcases hy s h1 with h2 | h2
      · exact h.sx (by simp [h2])
      · have := h.lts (k := s) (by simp); omega
   tbx := fun k hk hm => by
    rcases hy k hm with h2 | h2
    · exact h.tbx k hk h2
    · have := h.lts (k := k) (by simp [hk]); omega }
theorem StIs.belowW (h : StIs w0 w s c xs tb ov ps uvs S) (hb : Below w.heap.size w w') : StIs w0 w' s c xs tb ov ps uvs S := h.mindNew hb (fun k hk => .inl hk)
theorem StIs.mind (h : StIs w0 w s c xs tb ov ps uvs S) {ys : List Nat} (hy : ∀ k ∈ ys, k ∈ xs) : StIs w0 w s c ys tb ov ps uvs S := h.mindNew (Below.refl _ _) (fun k hk => .inl (hy k hk))
theorem StAt.belowW (h : StAt w0 w s c xs S) (hb : Below w.heap.size w w') : StAt w0 w' s c xs S := let ⟨_, _, _, _, x⟩ := h; (x.belowW hb).at
theorem StAt.mindNew (h : StAt w0 w s c xs S) (hb : Below w.heap.size w w') {ys : List Nat} (hy : ∀ k ∈ ys, k ∈ xs ∨ (w.heap.size ≤ k ∧ k < w'.heap.size)) : StAt w0 w' s c ys S := let ⟨_, _, _, _, x⟩ := h; (x.mindNew hb hy).at
theorem StAt.mind (h : StAt w0 w s c xs S) {ys : List Nat} (hy : ∀ k ∈ ys, k ∈ xs) : StAt w0 w s c ys S := let ⟨_, _, _, _, x⟩ := h; (x.mind hy).at
theorem StAt.lt (h : StAt w0 w s c xs S) {k : Nat} (hk : k ∈ xs) : k < w.heap.size := let ⟨_, _, _, _, x⟩ := h; x.lt hk
theorem StAt.below (h : StAt w0 w s c xs S) : Below w0.heap.size w0 w := let ⟨_, _, _, _, x⟩ := h; x.below
theorem StIs.writeL (h : StIs w0 w s c xs tb ov ps uvs S) {Z : List Nat} (hZ : ∀ k ∈ Z, k ∈ xs ∧ w0.heap.size ≤ k) (hO : Off Z w w') : StIs w0 w' s c xs tb ov ps uvs S :=
 have hK : ∀ k, k ∉ xs → k ∈ s :: (tb ++ xs) → w'.heap[k]? = w.heap[k]? := fun k hn hm => hO.block k (h.lts hm) (fun hz => hn (hZ k hz).1)
 { h with
   pool := h.pool.writeL (fun k hk => ⟨by simp [(hZ k hk).1], (hZ k hk).2⟩) hO
   head := (hK s (fun e => h.sx (by simp [e])) (by simp)).trans h.head
   own := owns_of_block h.own (fun k e => hK k (h.tbx k (h.inO k e)) (by simp [h.inO k e]))
   tx := fun i x T uv a b d => let ⟨vs, t⟩ := h.tx i x T uv a b d; ⟨vs, t.keep hO.size (fun k hk => ⟨hk, hK k (h.tbx k hk) (by simp [hk])⟩)⟩ }
theorem StIs.setS (h : StIs w0 w s c xs tb ov ps uvs S) (S' : St) (hp : S'.pool = S.pool) (ht : S'.txs = S.txs) (hO : Off [s] w w') (hr : w'.heap[s]? = some (.cells (stCells c S' ov) 65 (0, 0))) : StIs w0 w' s c xs tb ov ps uvs S' :=
 have hK : ∀ k, k ≠ s → k ∈ s :: (tb ++ xs) → w'.heap[k]? = w.heap[k]? := fun k hn hm => hO.block k (h.lts hm) (by simpa using hn)
 { pool := by rw [hp]; exact h.pool.writeL (fun k hk => by simp only [List.mem_singleton] at hk; subst hk; exact ⟨by simp, h.s0⟩) hO
   head := hr
   own := by rw [ht]; exact owns_of_block h.own (fun k e => hK k (fun e' => h.sx (by rw [← e']; simp [h.inO k e])) (by simp [h.inO k e]))
   plen := by rw [ht]; exact h.plen
   ulen := by rw [ht]; exact h.ulen
   tx := fun i x T uv a b d => let ⟨vs, t⟩ := h.tx i x T uv a (by rw [← ht]; exact b) d; ⟨vs, t.keep hO.size (fun k hk => ⟨hk, hK k (fun e' => h.sx (by rw [← e']; simp [hk])) (by simp [hk])⟩)⟩
   nodup := h.nodup
   udis := h.udis
   s0 := h.s0
   t0 := h.t0
   sx := h.sx
   tbx := h.tbx
   inO := h.inO
   few := by rw [ht]; exact h.few
   lg2 := h.lg2
   n8 := h.n8 }
theorem StIs.setTx (h : StIs w0 w s c xs tb ov ps uvs S) {i x : Nat} {T T' : Tn} {uv uv' : Value} {vs' : List Value} {tb' Z : List Nat} (hx : ps[i]? = some x) (hT : S.txs[i]? = some T) (hu : uvs[i]? = some uv) (hO : Off Z w w') (hZ : ∀ k ∈ Z, k = x ∨ uv.ownBlock = some k)
 (ht : TxIs w' tb' x T' uv' vs') (htb : ∀ k ∈ tb, k ∈ tb') (hnew : ∀ k ∈ tb', k ∈ tb ∨ (w.heap.size ≤ k ∧ k < w'.heap.size)) (hu' : ∀ k, uv'.ownBlock = some k → uv.ownBlock = some k ∨ w.heap.size ≤ k)
 (hq : ∀ k, uv.ownBlock = some k → (∃ C, w.heap[k]? = some (.cells C 107 (0, 0)))) : StIs w0 w' s c xs tb' ov ps (uvs.set i uv') { S with txs := S.txs.set i T' } := by
 obtain ⟨vs, t⟩ := h.tx i x T uv hx hT hu
 have hil : i < S.txs.length := (List.getElem?_eq_some_iff.1 hT).1
 have hZt : ∀ k ∈ Z, k ∈ tb := fun k hk => by
  rcases hZ k hk with h1 | h1
  · rw [h1]; exact t.inX
  · exact t.inU k h1
 have hK : ∀ k, k ∉ Z → k ∈ s :: (tb ++ xs) → w'.heap[k]? = w.heap[k]? := fun k hn hm => hO.block k (h.lts hm) hn
 have sZ : s ∉ Z := fun hm => h.sx (by simp [hZt s hm])
 have oZ : ∀ k, ov.ownBlock = some k → k ∉ Z := fun k hk hm => by
  have h1 : ∃ C, w.heap[k]? = some (.cells C 72 (0, 0)) := by
   rcases h.own.2 with ⟨h1, _⟩ | ⟨g, cap, cur, h1, _, h3, _⟩
   · rw [h1] at hk; simp [Value.ownBlock] at hk
   · rw [h1] at hk
     have : g = k := by simpa [Value.ownBlock] using hk
     exact ⟨cur, by rw [← this]; exact h3⟩
  obtain ⟨C, h1⟩ := h1
  rcases hZ k hm with h2 | h2
  · rw [h2, t.head] at h1; simp at h1
  · obtain ⟨C', h3⟩ := hq k h2
    rw [h3] at h1; simp at h1
 refine { h with
  pool := h.pool.writeNew (fun k hk => ⟨by simp [hZt k hk], h.t0 k (hZt k hk)⟩) hO (fun k hm => by
   simp only [List.mem_cons, List.mem_append] at hm ⊢
   rcases hm with h3 | h3 | h3
   · exact .inl (.inl h3)
   · rcases hnew k h3 with h4 | h4
     · exact .inl (.inr (.inl h4))
     · exact .inr h4
   · exact .inl (.inr (.inr h3)))
  head := (hK s sZ (by simp)).trans h.head
  own := by
   show World.ownsRow _ 0 72 1 ov (S.txs.set i T').length _
   rw [List.length_set]
   exact owns_of_block h.own (fun k e => hK k (oZ k e) (by simp [h.inO k e]))
  plen := by rw [List.length_set]; exact h.plen
  ulen := by simp [h.ulen]
  tx := fun j y U v a b d => ?_
  udis := fun j l u v k a b d e => ?_
  t0 := fun k hk => ?_
  sx := fun hm => ?_
  tbx := fun k hk hm => ?_
  inO := fun k hk => htb k (h.inO k hk)
  few := by rw [List.length_set]; exact h.few }
 · by_cases e : i = j
   · subst e
     rw [List.getElem?_set_self hil] at b
     rw [List.getElem?_set_self (by rw [h.ulen]; exact hil)] at d
     rw [hx] at a
     cases a; cases b; cases d
     exact ⟨vs', ht⟩
   · rw [List.getElem?_set_ne e] at b d
     obtain ⟨vs2, t2⟩ := h.tx j y U v a b d
     refine ⟨vs2, ?_⟩
     have nX : y ∉ Z := fun hm => by
      rcases hZ y hm with h1 | h1
      · exact e (h.nodup i j y (by rw [h1]; exact hx) a)
      · obtain ⟨C', h3⟩ := hq y h1
        rw [t2.head] at h3; simp at h3
     have nU : ∀ k, v.ownBlock = some k → k ∉ Z := fun k hk hm => by
      rcases hZ k hm with h1 | h1
      · rcases t2.ups.2 with ⟨h4, _⟩ | ⟨g, cap, cur, h4, _, h5, _⟩
        · rw [h4] at hk; simp [Value.ownBlock] at hk
        · rw [h4] at hk
          have hg : g = k := by simpa [Value.ownBlock] using hk
          rw [hg, h1, t.head] at h5; simp at h5
      · exact e (h.udis i j uv v k hu d h1 hk)
     refine ⟨by rw [hK y nX (by simp [t2.inX])]; exact t2.head, owns_of_block t2.ups (fun k hk => hK k (nU k hk) (by simp [t2.inU k hk])), t2.vlen, fun a u v h1 h2 => ?_, htb _ t2.inX, fun k hk => htb _ (t2.inU k hk)⟩
     obtain ⟨g, cc, a1, a2, a3, a4, a5, C, a6⟩ := t2.byt a u v h1 h2
     have hgz : g ∉ Z := fun hm => by
      rcases hZ g hm with h5 | h5
      · rw [h5, t.head] at a6; simp at a6
      · obtain ⟨C', h3⟩ := hq g h5
        rw [h3] at a6; simp at a6
     exact ⟨g, cc, a1, a2, a3, htb _ a4, a5.of hO.size (hK g hgz (by simp [a4])), C, by rw [hK g hgz (by simp [a4])]; exact a6⟩
 · by_cases e1 : i = j <;> by_cases e2 : i = l
   · omega
   · subst e1
     rw [List.getElem?_set_self (by rw [h.ulen]; exact hil)] at a
     rw [List.getElem?_set_ne e2] at b
     cases a
     rcases hu' k d with h1 | h1
     · exact h.udis i l uv v k hu b h1 e
     · have hl : l < S.txs.length := by rw [← h.ulen]; exact (List.getElem?_eq_some_iff.1 b).1
       obtain ⟨vs2, t2⟩ := h.tx l _ _ v (List.getElem?_eq_getElem (by rw [h.plen]; exact hl)) (List.getElem?_eq_getElem hl) b
       have := h.lts (k := k) (by simp [t2.inU k e])
       omega
   · subst e2
     rw [List.getElem?_set_self (by rw [h.ulen]; exact hil)] at b
     rw [List.getElem?_set_ne e1] at a
     cases b
     rcases hu' k e with h1 | h1
     · exact h.udis j i u uv k a hu d h1
     · have hl : j < S.txs.length := by rw [← h.ulen]; exact (List.getElem?_eq_some_iff.1 a).1
       obtain ⟨vs2, t2⟩ := h.tx j _ _ u (List.getElem?_eq_getElem (by rw [h.plen]; exact hl)) (List.getElem?_eq_getElem hl) a
       have := h.lts (k := k) (by simp [t2.inU k d])
       omega
   · rw [List.getElem?_set_ne e1] at a
     rw [List.getElem?_set_ne e2] at b
     exact h.udis j l u v k a b d e
 · rcases hnew k hk with h1 | h1
   · exact h.t0 k h1
   · have := h.below.size; omega
 · rcases List.mem_append.1 hm with h1 | h1
   · rcases hnew s h1 with h2 | h2
     · exact h.sx (by simp [h2])
     · have := h.lts (k := s) (by simp); omega
   · exact h.sx (by simp [h1])
 · rcases hnew k hk with h1 | h1
   · exact h.tbx k h1 hm
   · have := h.lt hm; omega
theorem StIs.c0 (h : StIs w0 w s c xs tb ov ps uvs S) : w.cell? ⟨s, 0, none⟩ = some (.pointer (some ⟨c.p, 0, none⟩)) := by rw [cell_of_row w s 0 _ _ _ h.head]; rfl
theorem StIs.c1 (h : StIs w0 w s c xs tb ov ps uvs S) : w.cell? ⟨s, 1, none⟩ = some (.pointer (some ⟨c.r, 0, none⟩)) := by rw [cell_of_row w s 1 _ _ _ h.head]; rfl
theorem StIs.c2 (h : StIs w0 w s c xs tb ov ps uvs S) : w.cell? ⟨s, 2, none⟩ = some (.pointer (some ⟨c.P, 0, none⟩)) := by rw [cell_of_row w s 2 _ _ _ h.head]; rfl
theorem StIs.c3 (h : StIs w0 w s c xs tb ov ps uvs S) : w.cell? ⟨s, 3, none⟩ = some (.int .i64 (c.n : Int)) := by rw [cell_of_row w s 3 _ _ _ h.head]; rfl
theorem StIs.c4 (h : StIs w0 w s c xs tb ov ps uvs S) : w.cell? ⟨s, 4, none⟩ = some ov := by rw [cell_of_row w s 4 _ _ _ h.head]; rfl
theorem StIs.c5 (h : StIs w0 w s c xs tb ov ps uvs S) : w.cell? ⟨s, 5, none⟩ = some (.int .i64 (S.next : Int)) := by rw [cell_of_row w s 5 _ _ _ h.head]; rfl
theorem StIs.c6 (h : StIs w0 w s c xs tb ov ps uvs S) : w.cell? ⟨s, 6, none⟩ = some (.int .i64 (S.commits : Int)) := by rw [cell_of_row w s 6 _ _ _ h.head]; rfl
theorem StIs.c7 (h : StIs w0 w s c xs tb ov ps uvs S) : w.cell? ⟨s, 7, none⟩ = some (.int .i64 (S.master : Int)) := by rw [cell_of_row w s 7 _ _ _ h.head]; rfl
theorem StIs.c8 (h : StIs w0 w s c xs tb ov ps uvs S) : w.cell? ⟨s, 8, none⟩ = some (.int .i64 (S.redone : Int)) := by rw [cell_of_row w s 8 _ _ _ h.head]; rfl
theorem StIs.c9 (h : StIs w0 w s c xs tb ov ps uvs S) : w.cell? ⟨s, 9, none⟩ = some (.int .i64 (S.undone : Int)) := by rw [cell_of_row w s 9 _ _ _ h.head]; rfl
theorem StIs.c10 (h : StIs w0 w s c xs tb ov ps uvs S) : w.cell? ⟨s, 10, none⟩ = some (.bool false) := by rw [cell_of_row w s 10 _ _ _ h.head]; rfl
theorem StIs.fz (h : StIs w0 w s c xs tb ov ps uvs S) (o : Nat) : w.frozen? ⟨s, o, none⟩ = false := frozen_of_row w s o _ _ h.head
theorem StIs.ovlen (h : StIs w0 w s c xs tb ov ps uvs S) : ∃ ao cc, ov = .slice ao S.txs.length cc := by
 rcases h.own.2 with ⟨h1, h2⟩ | ⟨g, cap, cur, h1, _⟩
 · exact ⟨none, 0, by rw [h1, h2]⟩
 · exact ⟨_, _, h1⟩
theorem StIs.txAt (h : StIs w0 w s c xs tb ov ps uvs S) (i : Nat) (T : Tn) (hi : S.txs[i]? = some T) : ∃ g x uv vs cc, ov = .slice (some ⟨g, 0, none⟩) S.txs.length cc ∧ ps[i]? = some x ∧ uvs[i]? = some uv ∧ TxIs w tb x T uv vs ∧ w.cell? ⟨g, i, none⟩ = some (.pointer (some ⟨x, 0, none⟩)) := by
 have hlt := (List.getElem?_eq_some_iff.1 hi).1
 obtain ⟨x, hx⟩ : ∃ x, ps[i]? = some x := ⟨_, List.getElem?_eq_getElem (by rw [h.plen]; exact hlt)⟩
 obtain ⟨uv, hu⟩ : ∃ x, uvs[i]? = some x := ⟨_, List.getElem?_eq_getElem (by rw [h.ulen]; exact hlt)⟩
 obtain ⟨vs, t⟩ := h.tx i x T uv hx hi hu
 rcases h.own.2 with ⟨h1, h2⟩ | ⟨g, cap, cur, h1, _, h3, h4, h5, h6, h7⟩
 · omega
 · refine ⟨g, x, uv, vs, cap, h1, hx, hu, t, ?_⟩
   rw [cell_of_row w g i _ _ _ h3]
   have : (ptrs ps)[i]? = some (.pointer (some ⟨x, 0, none⟩)) := by simp [ptrs, hx]
   rw [← h7, List.getElem?_take_of_lt (by omega)] at this
   simpa using this
theorem StIs.asRing (h : StIs w0 w s c xs tb ov ps uvs S) : ∃ bl vs gp D, PoolIs c.bk w0 w c.P c.G (s :: (tb ++ xs)) bl vs S.pool ∧ BkIs w0 w c.r c.q c.p c.b c.lg c.n (c.P :: c.G :: (bl ++ (s :: (tb ++ xs)))) gp S.R S.pool.fo.2 D := by
 obtain ⟨bl, vs, x⟩ := h.pool
 obtain ⟨gp, D, y⟩ := x.bk
 exact ⟨bl, vs, gp, D, x, y⟩
theorem StIs.ofRing (h : StIs w0 w s c xs tb ov ps uvs S) {bl : List Nat} {vs : List Value} {gp : List Nat} {R : Rg} {dk : List (List UInt8)} {D : Dv} (x : PoolIs c.bk w0 w c.P c.G (s :: (tb ++ xs)) bl vs S.pool)
 (y : BkIs w0 w' c.r c.q c.p c.b c.lg c.n (c.P :: c.G :: (bl ++ (s :: (tb ++ xs)))) gp R dk D) (hK : Kept (c.P :: c.G :: (bl ++ (s :: (tb ++ xs)))) w w') : StIs w0 w' s c xs tb ov ps uvs { S with pool := { S.pool with fo := (R, dk) } } ∧ Kept (s :: (tb ++ xs)) w w' :=
 have hK2 : Kept (s :: (tb ++ xs)) w w' := ⟨hK.1, fun k hk => hK.2 k (by simp only [List.mem_cons, List.mem_append] at hk ⊢; exact .inr (.inr (.inr hk)))⟩
 ⟨h.kept _ (x.kept (R, dk) ⟨gp, D, y⟩ hK).at hK2, hK2⟩
end
end Go.Proofs.YteeembildppgmaaGreat
namespace Go.Proofs.YteeembildppgmaaGreat
open Go.RowKit
set_option linter.unusedVariables false
set_option linter.unusedSimpArgs false
theorem Tryz.enters58 (args : Array Value) (w : World) : (callFunc 58 args).run Tryz.prog w = .ok (.enter 58 args) w := by kernel_rfl
theorem Tryz.enters57 (args : Array Value) (w : World) : (callFunc 57 args).run Tryz.prog w = .ok (.enter 57 args) w := by kernel_rfl
theorem sl_of_owns {w : World} {base n c : Nat} {ao : Option Addr} {bs : List UInt8} (h : w.ownsRow base 5 1 (.slice ao n c) bs.length (Enc.secCells bs)) : Sl w (.slice ao bs.length c) bs := by
 rcases h.2 with ⟨h1, h2⟩ | ⟨g, cap, cur, h1, _, h3, h4, h5, h6, h7⟩
 · injection h1 with e1 e2 e3
   subst e1
   exact .inl ⟨c, by rw [h2], List.eq_nil_of_length_eq_zero h2⟩
 · injection h1 with e1 e2 e3
   subst e1
   refine .inr ⟨_, _, rfl, fun j u hu => ?_⟩
   rw [Addr.add_mid, Nat.zero_add, cell_of_row w g j _ _ _ h3]
   have hu : (Enc.secCells bs)[j]? = some u := hu
   rw [← h7] at hu
   have hj := (List.getElem?_eq_some_iff.1 hu).1
   rw [List.length_take] at hj
   rw [List.getElem?_take_of_lt (by omega)] at hu
   simpa using hu
section
variable {w0 w w' : World} {s : Nat} {c : Cf} {xs tb : List Nat} {ov : Value} {ps : List Nat} {uvs : List Value} {S : St}
set_option maxHeartbeats 400000 in
theorem heed_ok (w : World) (s : Nat) : Calls Tryz.prog 51 #[.pointer (some ⟨s, 0, none⟩), .int .i64 0] w fun e w' => e = .returned (.int .i64 0) ∧ w' = w := by
 go_enter Tryz.func51, Tryz.ntmps51
 go_wp2
 go_ret
 exact ⟨rfl, rfl⟩
def hasB (n : Nat) (pg off m : Int) : Bool := decide (0 ≤ pg ∧ pg < (n : Int) ∧ 0 ≤ off ∧ 0 ≤ m ∧ m ≤ 504 - off)
set_option maxHeartbeats 1000000 in
theorem shas_any (h : StIs w0 w s c xs tb ov ps uvs S) (pg off m : Int) (ho : off ≤ 9223372036854775807) :
 Calls Tryz.prog 32 #[.pointer (some ⟨s, 0, none⟩), .int .i64 pg, .int .i64 off, .int .i64 m] w fun e w' => e = .returned (.bool (hasB c.n pg off m)) ∧ w' = w := by
 have c3 := h.c3
 clear h
 obtain ⟨N, hN⟩ : ∃ N : Nat, c.n = N := ⟨_, rfl⟩
 rw [hN] at c3 ⊢
 clear hN
 unfold hasB
 by_cases h1 : pg < 0
 · rw [decide_eq_false (by omega)]
   go_enter Tryz.func32, Tryz.ntmps32
   go_wp2
   go_ret
   exact ⟨rfl, rfl⟩
 · by_cases h2 : (N : Int) ≤ pg
   · rw [decide_eq_false (by omega)]
     go_enter Tryz.func32, Tryz.ntmps32
     go_wp2
     go_ret
     exact ⟨rfl, rfl⟩
   · by_cases h3 : 0 ≤ off
     · have hw : IntKind.i64.wrap (504 - off) = 504 - off := by rw [IntKind.wrap_i64]; omega
       by_cases h4 : 0 ≤ m
       · by_cases h5 : m ≤ 504 - off
         · rw [decide_eq_true (by omega)]
           go_enter Tryz.func32, Tryz.ntmps32
           go_wp2
           go_ret
           exact ⟨rfl, rfl⟩
         · rw [decide_eq_false (by omega)]
           go_enter Tryz.func32, Tryz.ntmps32
           go_wp2
           go_ret
           exact ⟨rfl, rfl⟩
       · rw [decide_eq_false (by omega)]
         go_enter Tryz.func32, Tryz.ntmps32
         go_wp2
         go_ret
         exact ⟨rfl, rfl⟩
     · rw [decide_eq_false (by omega)]
       go_enter Tryz.func32, Tryz.ntmps32
       go_wp2
       go_ret
       exact ⟨rfl, rfl⟩
set_option maxHeartbeats 400000 in
theorem sflush_ok (h : StIs w0 w s c xs tb ov ps uvs S) : Calls Tryz.prog 41 #[.pointer (some ⟨s, 0, none⟩)] w fun e w' => e = .returned (.int .i64 0) ∧ StIs w0 w' s c xs tb ov ps uvs (S.setR { S.R with fin := S.R.tail }) ∧ Kept (s :: (tb ++ xs)) w w' := by
 have c1 := h.c1
 obtain ⟨bl, vs, gp, D, hx, hy⟩ := h.asRing
 have HF := hide (bk_flush hy)
 have HH := hide (fun w => heed_ok w s)
 have H := hide (And.intro h hx)
 clear h hx hy
 go_enter Tryz.func41, Tryz.ntmps41
 go_wp2_with (first
  | (go_at_call 68; refine HF.out.mono ?_; rintro e w2 ⟨rfl, h2, hK2⟩; have H2 := hide (And.intro h2 hK2); clear h2 hK2)
  | (go_at_call 51; refine (HH.out _).mono ?_; rintro e w3 ⟨rfl, hw⟩; have hw := hw.symm; subst hw))
 go_ret
 obtain ⟨⟨D2, y2⟩, hK2⟩ := H2.out
 obtain ⟨z1, z2⟩ := H.out.1.ofRing H.out.2 y2 hK2
 exact ⟨rfl, z1, z2⟩
set_option maxHeartbeats 1000000 in
set_option maxRecDepth 100000 in
theorem tell_ok (h : StIs w0 w s c xs tb ov ps uvs S) {V : Value} {Rc : Enc.Rc} (hV : Enc.RecVal w V Rc) (hs : Rc.size ≤ 1000000) (hwf : Rc.wf) (hroom : Rc.size ≤ S.R.room) :
 Calls Tryz.prog 30 #[.pointer (some ⟨s, 0, none⟩), V] w fun e w' => e = .returned (.tuple #[.int .i64 ((S.R.tail + 1 : Nat) : Int), .int .i64 0]) ∧
  StIs w0 w' s c xs tb ov ps uvs (S.setR { S.R with held := S.R.held ++ Rc.enc }) ∧ Kept (s :: (tb ++ xs)) w w' := by
 have hV0 := hV
 obtain ⟨vb, va, vt, vd, rfl, r1, r2, r3, r4⟩ := hV
 obtain ⟨ab, cb, rfl, b1, b2⟩ := Enc.Row.len r1
 obtain ⟨aa, ca, rfl, a1, a2⟩ := Enc.Row.len r2
 obtain ⟨aT, ct, rfl, t1, t2⟩ := Enc.Row.len r3
 obtain ⟨ad, cd, rfl, d1, d2⟩ := Enc.Row.len r4
 obtain ⟨bl, vs, gp, D, hx, hy⟩ := h.asRing
 have hC : (Enc.recCells Rc (.slice ab Rc.before.length cb) (.slice aa Rc.after.length ca) (.slice aT Rc.txns.length ct) (.slice ad Rc.dirty.length cd)).size = 11 := rfl
 have hb1 : Below w.heap.size w (w.alloc (.cells (Enc.recCells Rc (.slice ab Rc.before.length cb) (.slice aa Rc.after.length ca) (.slice aT Rc.txns.length ct) (.slice ad Rc.dirty.length cd)) 69)) := (Below.refl _ w).alloc (Nat.le_refl _) _
 have hq1 : (w.alloc (.cells (Enc.recCells Rc (.slice ab Rc.before.length cb) (.slice aa Rc.after.length ca) (.slice aT Rc.txns.length ct) (.slice ad Rc.dirty.length cd)) 69)).heap[w.heap.size]? = some (.cells (Enc.recCells Rc (.slice ab Rc.before.length cb) (.slice aa Rc.after.length ca) (.slice aT Rc.txns.length ct) (.slice ad Rc.dirty.length cd)) 69 (0, 0)) := heap_alloc_new w _
 have hz1 : (w.alloc (.cells (Enc.recCells Rc (.slice ab Rc.before.length cb) (.slice aa Rc.after.length ca) (.slice aT Rc.txns.length ct) (.slice ad Rc.dirty.length cd)) 69)).heap.size = w.heap.size + 1 := by simp
 have y1 := hy.mindNew (ys := c.P :: c.G :: (bl ++ (s :: (tb ++ xs)))) hb1 (fun k hk => .inl hk)
 have HT := hide (tail_any y1.rg)
 have c11 : (w.alloc (.cells (Enc.recCells Rc (.slice ab Rc.before.length cb) (.slice aa Rc.after.length ca) (.slice aT Rc.txns.length ct) (.slice ad Rc.dirty.length cd)) 69)).cell? ⟨s, 1, none⟩ = some (.pointer (some ⟨c.r, 0, none⟩)) := (hb1.cell (p := ⟨s, 1, none⟩) (h.lts (by simp))).trans h.c1
 have HGP : Hid (∀ k ∈ gp, k < w.heap.size) := fun k hk => rg_lim hy.rg k hk
 have HSL : Hid (s < w.heap.size) := h.lts (by simp)
 have HXX := hide hx
 have H := hide h
 have HV0 := hide hV0
 have hV1 := hV0.below hb1 (Nat.le_refl _)
 unfold Enc.recCells at c11 hb1 hq1 hz1 y1 HT
 have HV1 := hide hV1
 have HB1 := hide hb1
 have HRM := hide hroom
 have HCS := hide hC
 have htl : (S.R.tail : Int) + 1 ≤ 4398046511104 := by have h1 := hy.rg.wf.start; have h2 := hy.rg.wf.held; show ((S.R.start + S.R.held.length : Nat) : Int) + 1 ≤ _; omega
 have HSS := hide hs
 have HWF := hide hwf
 clear h hx hy hV0 hV1 hs hwf hroom hC r1 r2 r3 r4 b1 b2 a1 a2 t1 t2 d1 d2
 have HQ1 := hide hq1
 have HZ1 := hide hz1
 have HY1 := hide y1
 clear hq1 hz1 y1 hb1
 unfold Enc.recCells at *
 obtain ⟨T, hT⟩ : ∃ T : Nat, S.R.tail = T := ⟨_, rfl⟩
 rw [hT] at HT htl ⊢
 clear hT
 have c1 := H.out.c1
 have hsl := HSL.out
 go_enter Tryz.func30, Tryz.ntmps30
 go_wp2_with fail
 refine HT.out.mono ?_
 rintro e W2 ⟨rfl, m, hm⟩
 obtain ⟨W1, hW1⟩ : ∃ W1, w.alloc (.cells #[.int .i64 Rc.kind, .int .i64 Rc.txn, .int .i64 Rc.prev, .int .i64 Rc.next, .int .i64 Rc.page, .int .i64 Rc.off, .slice ab Rc.before.length cb, .slice aa Rc.after.length ca, .slice aT Rc.txns.length ct, .slice ad Rc.dirty.length cd, .int .i64 Rc.count] 69) = W1 := ⟨_, rfl⟩
 rw [hW1] at HV1 HQ1 HZ1 HY1 HB1 c11 hm
 clear hW1 HT c1
 generalize hC0 : (#[.int .i64 Rc.kind, .int .i64 Rc.txn, .int .i64 Rc.prev, .int .i64 Rc.next, .int .i64 Rc.page, .int .i64 Rc.off, .slice ab Rc.before.length cb, .slice aa Rc.after.length ca, .slice aT Rc.txns.length ct, .slice ad Rc.dirty.length cd, .int .i64 Rc.count] : Array Value) = C at *
 clear hC0
 have hb2 : Below W1.heap.size W1 W2 := by rw [hm]; exact below_drewN _ _ _
 have y2 := HY1.out.mindNew (ys := c.P :: c.G :: (bl ++ (s :: (tb ++ xs)))) hb2 (fun k hk => .inl hk)
 have HB2 : Hid (Below w.heap.size w W2) := HB1.out.trans (hb2.mono HB1.out.size)
 have c12 : W2.cell? ⟨s, 1, none⟩ = some (.pointer (some ⟨c.r, 0, none⟩)) := (hb2.cell (p := ⟨s, 1, none⟩) (by have := HSL.out; have := HZ1.out; show s < _; omega)).trans c11
 obtain ⟨Q, hQ⟩ : ∃ Q, w.heap.size = Q := ⟨_, rfl⟩
 have q2 : W2.heap[Q]? = some (.cells C 69 (0, 0)) := by rw [← hQ]; exact (hb2.block _ (by have := HZ1.out; omega)).trans HQ1.out
 have HQ2 : Hid (Q < W2.heap.size) := by have := hb2.size; have := HZ1.out; show Q < _; omega
 have hV2 := HV1.out.below hb2 (Nat.le_refl _)
 have HEN := hide (fun d => Enc.encode_any (hV2.below (below_drewN _ W2 d) (Nat.le_refl _)) (by have := HSS.out; omega) HWF.out)
 have HY2 := hide y2
 rw [hQ]
 have HQ := hide hQ
 clear hm hb2 y2 c11 HY1 HV1 hQ hV2
 have hmm : Hid (m = m) := rfl
 clear hmm
 go_wp2_with fail
 refine wp_region_held_drew (S := fun w' => w'.cell? ⟨s, 1, none⟩ = some (.pointer (some ⟨c.r, 0, none⟩)) ∧ w'.heap[Q]? = some (.cells C 69 (0, 0))) (by kernel_rfl) ⟨c12, q2⟩ (fun hH => ?_)
 refine take_to 0 14 (.pointer (some ⟨s, 0, none⟩)) rfl (by kernel_rfl) (by kernel_rfl) (by kernel_rfl) (fun _ _ _ h => h) rfl (by rfl) (fun w hw => by rfl) hH ?_
 simp only [Act.put, zA, zB, zC]
 refine take_to 1 15 (.pointer (some ⟨s, 0, none⟩)) rfl (by kernel_rfl) (by kernel_rfl) (by kernel_rfl) (fun _ _ _ h => h) rfl (by rfl) (fun w hw => by rfl) hH ?_
 simp only [Act.put, zA, zB, zC]
 refine take_to 2 16 (.pointer (some ⟨s, 1, none⟩)) rfl (by kernel_rfl) (by kernel_rfl) (by kernel_rfl) (fun _ _ _ h => h) rfl (by rfl) (fun w hw => by rfl) hH ?_
 simp only [Act.put, zA, zB, zC]
 refine take_to 3 17 (.pointer (some ⟨c.r, 0, none⟩)) rfl (by kernel_rfl) (by kernel_rfl) (by kernel_rfl) (fun _ _ _ h => h) rfl (by rfl) (fun w hw => op_load _ _ 61 (.tmp 16) rfl (.pointer (some ⟨s, 1, none⟩)) _ rfl (run_loadAny w s 1 61 _ Tryz.isAgg61 hw.1)) hH ?_
 simp only [Act.put, zA, zB, zC]
 refine take_to 4 18 (.agg C) rfl (by kernel_rfl) (by kernel_rfl) (by kernel_rfl) (fun _ _ _ h => h) rfl (by rfl) (fun w hw => op_load _ _ 69 (.tmp 3) rfl (.pointer (some ⟨Q, 0, none⟩)) _ rfl (Enc.run_load69 w Q C HCS.out hw.2)) hH ?_
 simp only [Act.put, zA, zB, zC]
 refine step_call1_to 5 19 58 rfl (by kernel_rfl) rfl (by rfl) (.tmp 18) _ rfl _ rfl Tryz.enters58 (HEN.out 1) ?_
 rintro e w3 ⟨v, rfl, ho, hb3⟩
 have hb13 : Below W2.heap.size W2 w3 := (below_drewN _ W2 1).trans hb3
 obtain ⟨ao, cc, hv⟩ := Enc.owns_len ho
 subst hv
 have y3 := HY2.out.mindNew (ys := c.P :: c.G :: (bl ++ (s :: (tb ++ xs)))) hb13 (fun k hk => .inl hk)
 have hS3 : w3.cell? ⟨s, 1, none⟩ = some (.pointer (some ⟨c.r, 0, none⟩)) ∧ w3.heap[Q]? = some (.cells C 69 (0, 0)) := ⟨(hb13.cell (p := ⟨s, 1, none⟩) (by have := HSL.out; have := HQ2.out; have := HQ.out; show s < _; omega)).trans c12, (hb13.block Q (by have := HQ2.out; omega)).trans q2⟩
 have HAP := hide (append_ok (bs := Rc.enc) y3.rg y3.nof (by rw [Enc.length_enc]; exact HRM.out) (sl_of_owns ho))
 have Y3 := hide y3
 have HB13 := hide hb13
 clear y3 ho hb3 hb13
 refine ⟨_, rfl, hS3, ?_⟩
 simp only [Act.put, zA, zB, zC]
 refine step_call2_to 6 20 57 rfl (by kernel_rfl) rfl (by rfl) (.tmp 17) (.tmp 19) _ rfl _ _ rfl rfl Tryz.enters57 (HAP.out) ?_
 rintro e w4 ⟨rfl, gp4, a1, a2, a3⟩
 obtain ⟨y4, K4⟩ := Y3.out.ring a2 a1 a3 rfl rfl rfl
 have hS4 : w4.cell? ⟨s, 1, none⟩ = some (.pointer (some ⟨c.r, 0, none⟩)) ∧ w4.heap[Q]? = some (.cells C 69 (0, 0)) := by
  refine ⟨?_, (a2.block Q (by have := HQ2.out; have := HB13.out.size; omega) (fun hm => by have := HGP.out Q hm; have := HQ.out; omega)).trans hS3.2⟩
  rw [World.cell?_of_block (a := ⟨s, 1, none⟩) (K4.2 s (by simp))]
  exact hS3.1
 have H4 := hide (And.intro y4 K4)
 clear y4 K4 a1 a2 a3
 refine ⟨_, rfl, hS4, ?_⟩
 simp only [Act.put, zA, zB, zC]
 refine step_to 7 7 (.int .i64 0) w4 rfl (by kernel_rfl) rfl (by rfl) (rfl) hS4 ?_
 simp only [Act.put, zA, zB, zC]
 refine wpAnyH_done (by kernel_rfl) ?_ _
 go_wp2
 go_ret2
 have hx2 := (HXX.out.belowW HB2.out).belowW HB13.out
 obtain ⟨z1, z2⟩ := ((H.out.belowW HB2.out).belowW HB13.out).ofRing hx2 H4.out.1 H4.out.2
 exact ⟨rfl, z1, Kept.trans ⟨HB2.out.size, fun k hk => HB2.out.block k (H.out.lts hk)⟩ (Kept.trans ⟨HB13.out.size, fun k hk => HB13.out.block k ((H.out.belowW HB2.out).lts hk)⟩ z2)⟩
end
end Go.Proofs.YteeembildppgmaaGreat
