/- Lines of a log in memory. -/
import Derived.Test.YtpjppolbkdnkaaaMapI
namespace Go.Proofs.Ytpjppolbkdnkaaa
open Go.RowKit
set_option linter.unusedVariables false
set_option linter.unusedSimpArgs false

/-- A slice's value. -/
structure Sv where
  a : Option Addr
  n : Nat
  c : Nat
def Sv.v (s : Sv) : Value := .slice s.a s.n s.c
structure Ln where
  lsn : Int
  kind : Int
  txn : Int
  prev : Int
  next : Int
  page : Int
  off : Int
  count : Int
  sb : Sv
  sa : Sv
  st : Sv
  sd : Sv
structure Ln.ok (x : Ln) : Prop where
  lsn : In64 x.lsn
  kind : In64 x.kind
  txn : In64 x.txn
  prev : In64 x.prev
  next : In64 x.next
  page : In64 x.page
  off : In64 x.off
  count : In64 x.count
def recCells (x : Ln) : List Value := [.int .i64 x.kind, .int .i64 x.txn, .int .i64 x.prev, .int .i64 x.next, .int .i64 x.page, .int .i64 x.off, .slice x.sb.a x.sb.n x.sb.c, .slice x.sa.a x.sa.n x.sa.c, .slice x.st.a x.st.n x.st.c, .slice x.sd.a x.sd.n x.sd.c, .int .i64 x.count]
def lnCells (x : Ln) : List Value := .int .i64 x.lsn :: recCells x
def LinesAt (w : World) (a : Option Addr) (L : List Ln) : Prop := L.length ≤ 1000000 ∧ ∀ (i : Nat) (x : Ln), L[i]? = some x → x.ok ∧ ∃ b o, a = some ⟨b, o, none⟩ ∧ b < w.heap.size ∧ w.rangeAt b (o + i * 12) (lnCells x)
theorem LinesAt.below {w w' : World} {a : Option Addr} {L : List Ln} (h : LinesAt w a L) (hb : Below w.heap.size w w') : LinesAt w' a L :=
  ⟨h.1, fun i x hx => by
    obtain ⟨h0, b, o, h1, h2, h3⟩ := h.2 i x hx
    exact ⟨h0, b, o, h1, Nat.lt_of_lt_of_le h2 hb.size, fun j v hv => (hb.cell (p := ⟨b, o + i * 12 + j, none⟩) h2).trans (h3 j v hv)⟩⟩
theorem LinesAt.belowB {w w' : World} {a : Option Addr} {L : List Ln} {B : Nat} (h : LinesAt w a L) (hb : Below B w w') (hB : ∀ b o, a = some ⟨b, o, none⟩ → b < B) : LinesAt w' a L :=
  ⟨h.1, fun i x hx => by
    obtain ⟨h0, b, o, h1, h2, h3⟩ := h.2 i x hx
    exact ⟨h0, b, o, h1, Nat.lt_of_lt_of_le h2 hb.size, fun j v hv => (hb.cell (p := ⟨b, o + i * 12 + j, none⟩) (hB b o h1)).trans (h3 j v hv)⟩⟩
theorem Try.size34n : (Try.prog.info? 34).map (·.size) = some 12 := by kernel_rfl
theorem Try.size32n : (Try.prog.info? 32).map (·.size) = some 11 := by kernel_rfl
/-- Does a record change a page? -/
def Ln.changes (x : Ln) : Bool := x.kind == 2 || x.kind == 3
set_option maxHeartbeats 400000 in
set_option maxRecDepth 100000 in
theorem changes_any (x : Ln) (w : World) : Calls Try.prog 53 #[.agg (recCells x).toArray] w fun e w' => e = .returned (.bool x.changes) ∧ Below w.heap.size w w' := by
  obtain ⟨lsn, kind, txn, prev, next, page, off, count, ⟨ab, nb, cb⟩, ⟨aa, na, ca⟩, ⟨at', nt, ct⟩, ⟨ad, nd, cd⟩⟩ := x
  unfold recCells Ln.changes
  simp only
  by_cases h2 : kind = 2
  · have hb : (kind == 2) = true := by simp [h2]
    rw [hb]
    clear h2
    go_enter Try.func53, Try.ntmps53
    go_wp2
    go_ret
    exact ⟨rfl, (Below.refl _ _).alloc (Nat.le_refl _) _⟩
  · have hb : (kind == 2) = false := beq_eq_false_iff_ne.2 h2
    rw [hb]
    clear h2
    go_enter Try.func53, Try.ntmps53
    go_wp2
    go_ret
    exact ⟨by simp, (Below.refl _ _).alloc (Nat.le_refl _) _⟩
end Go.Proofs.Ytpjppolbkdnkaaa
