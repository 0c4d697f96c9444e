/- The walk of NodeFinds. -/
import Derived.Test.YtjcobejaldfibaaFdp
import Derived.Test.YtjcobejaldfibaaRFd
import Derived.Test.YtjcobejaldfibaaCut
namespace Go.Proofs.Ytjcobejaldfibaa
open Go.RowKit
set_option linter.unusedVariables false
set_option linter.unusedSimpArgs false

theorem op_neq4 (ρ : Operand → Value) (o : Oper) (x y : Operand) (tt : TypeId) (ho : o.op = .binOp .neq 4 x y tt) (n : Bool) (hx : ρ x = .bool n) (hy : ρ y = .bool n) {w : World} : (execOp ρ o).run Try.prog w = .ok (.value (.bool false)) w := by
  have hu := Try.underlying4
  unfold execOp
  simp only [ho, hx, hy]
  cases n <;> simp [go_sem, hu]
theorem op_neq9 (ρ : Operand → Value) (o : Oper) (x y : Operand) (tt : TypeId) (ho : o.op = .binOp .neq 9 x y tt) (n : ByteArray) (hx : ρ x = .string n) (hy : ρ y = .string n) {w : World} : (execOp ρ o).run Try.prog w = .ok (.value (.bool false)) w := by
  have hu := Try.underlying9
  unfold execOp
  simp only [ho, hx, hy]
  simp [go_sem, hu]
theorem op_sub3 (ρ : Operand → Value) (o : Oper) (x y : Operand) (tt : TypeId) (ho : o.op = .binOp .sub 3 x y tt) (n m : Int) (hx : ρ x = .int .i64 n) (hy : ρ y = .int .i64 m) (b : Int) (hb : IntKind.i64.wrap (n - m) = b) {w : World} : (execOp ρ o).run Try.prog w = .ok (.value (.int .i64 b)) w := by
  have hu := Try.underlying3
  unfold execOp
  simp only [ho, hx, hy]
  simp [go_sem, hu, hb]
theorem op_leq3 (ρ : Operand → Value) (o : Oper) (x y : Operand) (tt : TypeId) (ho : o.op = .binOp .leq 3 x y tt) (n m : Int) (hx : ρ x = .int .i64 n) (hy : ρ y = .int .i64 m) (b : Bool) (hb : decide (n ≤ m) = b) {w : World} : (execOp ρ o).run Try.prog w = .ok (.value (.bool b)) w := by
  have hu := Try.underlying3
  unfold execOp
  simp only [ho, hx, hy]
  simp [go_sem, hu, hb]
theorem toF {w : World} {N : Nd} {vk vv vi : Value} {l : Bool} {x : Int} (hf : Fits N) (hl : N.leaf = l) (hx : N.next = x) (h : NdAt w N vk vv vi) :
    Calls Try.prog 17 #[.agg #[.bool l, vk, vv, vi, .int .i64 x]] w fun e w' => ∃ uk uv, e = .returned (.agg #[.bool l, uk, uv, vi, .int .i64 x]) ∧ Below w.heap.size w w' ∧ RdAt w' N uk uv vi := by
  subst hl hx
  exact to_any h hf
theorem sameF {w : World} {N : Nd} {uk uv vi uk' uv' vi' : Value} {l : Bool} {x : Int} (hf : Fits N) (hl : N.leaf = l) (hx : N.next = x) (h : RdAt w N uk uv vi) (h' : RdAt w N uk' uv' vi') :
    Calls Try.prog 16 #[.agg #[.bool l, uk, uv, vi, .int .i64 x], .agg #[.bool l, uk', uv', vi', .int .i64 x]] w fun e w' => e = .returned (.bool true) ∧ Below w.heap.size w w' := by
  subst hl hx
  exact same_any h h' hf
theorem findF {w : World} {N : Nd} {vk vv vi kv : Value} {K : List UInt8} {l : Bool} {x : Int} {p : Nat} {q : Bool} (hf : Fits N) (hl : N.leaf = l) (hx : N.next = x) (hp : plc N.keys K = p) (hq : hasK N.keys K = q) (h : NdAt w N vk vv vi) (hk : Sl w kv K) :
    Calls Try.prog 21 #[.agg #[.bool l, vk, vv, vi, .int .i64 x], kv] w fun e w' => e = .returned (.tuple #[.int .i64 (p : Int), .bool q]) ∧ Below w.heap.size w w' := by
  subst hl hx hp hq
  exact find_any h hf hk
theorem rfindF {w : World} {N : Nd} {vk vv vi : Value} {K : List UInt8} {l : Bool} {x : Int} {p : Nat} {q : Bool} (hf : Fits N) (hl : N.leaf = l) (hx : N.next = x) (hp : plc N.keys K = p) (hq : hasK N.keys K = q) (h : RdAt w N vk vv vi) :
    Calls Try.prog 22 #[.agg #[.bool l, vk, vv, vi, .int .i64 x], .string (strOf K)] w fun e w' => e = .returned (.tuple #[.int .i64 (p : Int), .bool q]) ∧ Below w.heap.size w w' := by
  subst hl hx hp hq
  exact rfind_any h hf K
theorem sizeF {w : World} {N : Nd} {vk vv vi : Value} {l : Bool} {x : Int} {s : Nat} (hf : Fits N) (hz : N.size ≤ 4611686018427387904) (hl : N.leaf = l) (hx : N.next = x) (hs : N.size = s) (h : NdAt w N vk vv vi) :
    Calls Try.prog 23 #[.agg #[.bool l, vk, vv, vi, .int .i64 x]] w fun e w' => e = .returned (.int .i64 (s : Int)) ∧ Below w.heap.size w w' := by
  subst hl hx hs
  exact size_any h hf hz
theorem rsizeF {w : World} {N : Nd} {vk vv vi : Value} {l : Bool} {x : Int} {s : Nat} (hf : Fits N) (hz : N.size ≤ 4611686018427387904) (hl : N.leaf = l) (hx : N.next = x) (hs : N.size = s) (h : RdAt w N vk vv vi) :
    Calls Try.prog 24 #[.agg #[.bool l, vk, vv, vi, .int .i64 x]] w fun e w' => e = .returned (.int .i64 (s : Int)) ∧ Below w.heap.size w w' := by
  subst hl hx hs
  exact rsize_any h hf hz
theorem putF {w : World} {N P : Nd} {vk vv vi kv yv : Value} {K V : List UInt8} {l : Bool} {x : Int} (hf : Fits N) (hkl : K.length ≤ 140737488355328) (hyl : V.length ≤ 140737488355328)
    (hrk : (N.keys.length + 1) * 24 ≤ 140737488355328) (hrv : (N.vals.length + 1) * 24 ≤ 140737488355328) (hl : N.leaf = l) (hx : N.next = x) (hP : putN N K V = P) (h : NdAt w N vk vv vi) (hk : Sl w kv K) (hy : Sl w yv V) :
    Calls Try.prog 10 #[.agg #[.bool l, vk, vv, vi, .int .i64 x], kv, yv] w fun e w' => ∃ a b c, e = .returned (.agg #[.bool l, a, b, c, .int .i64 x]) ∧ Below w.heap.size w w' ∧ NdAt w' P a b c := by
  subst hl hx hP
  refine (put_any h hf hk hy hkl hyl hrk hrv).mono ?_
  rintro e w' ⟨a, b, c, rfl, h1, h2⟩
  exact ⟨a, b, c, rfl, h1, h2.at⟩
theorem delF {w : World} {N D : Nd} {vk vv vi kv : Value} {K : List UInt8} {l q : Bool} {x : Int} (hf : Fits N) (hl : N.leaf = l) (hx : N.next = x) (hD : delN N K = D) (hq : delH N K = q) (h : NdAt w N vk vv vi) (hk : Sl w kv K) :
    Calls Try.prog 9 #[.agg #[.bool l, vk, vv, vi, .int .i64 x], kv] w fun e w' => ∃ a b c, e = .returned (.tuple #[.agg #[.bool l, a, b, c, .int .i64 x], .bool q]) ∧ Below w.heap.size w w' ∧ NdAt w' D a b c := by
  subst hl hx hD hq
  refine (del_any h hf hk).mono ?_
  rintro e w' ⟨a, b, c, rfl, h1, h2⟩
  exact ⟨a, b, c, rfl, h1, h2.at⟩
/-- Where the law stands: the node, the key, the value. -/
structure NSt (w W : World) (N : Nd) (l : Bool) (x : Int) (n1 n2 n3 kv yv : Value) (K V : List UInt8) : Prop where
  below : Below w.heap.size w W
  nb : Box 26 W w.heap.size (.bool l) n1 n2 n3 (.int .i64 x)
  na : NdAt W N n1 n2 n3
  k : Sl W kv K
  y : Sl W yv V
theorem NSt.next {w W W' : World} {N : Nd} {l : Bool} {x : Int} {n1 n2 n3 kv yv : Value} {K V : List UInt8} (h : NSt w W N l x n1 n2 n3 kv yv K V) (hb : Below W.heap.size W W') : NSt w W' N l x n1 n2 n3 kv yv K V :=
  ⟨h.below.trans (hb.mono h.below.size), h.nb.belowW hb, h.na.belowW hb, h.k.belowW hb, h.y.belowW hb⟩
/-- A node in a box besides. -/
structure MSt (W : World) (P : Nd) (l : Bool) (x : Int) (b : Nat) (p1 p2 p3 : Value) : Prop where
  box : Box 26 W b (.bool l) p1 p2 p3 (.int .i64 x)
  at' : NdAt W P p1 p2 p3
theorem MSt.next {W W' : World} {P : Nd} {l : Bool} {x : Int} {b : Nat} {p1 p2 p3 : Value} (h : MSt W P l x b p1 p2 p3) (hb : Below W.heap.size W W') : MSt W' P l x b p1 p2 p3 := ⟨h.box.belowW hb, h.at'.belowW hb⟩
theorem MSt.new {W : World} {P : Nd} {l : Bool} {x : Int} {p1 p2 p3 : Value} (h : NdAt W P p1 p2 p3) : MSt (W.alloc (.cells #[.bool l, p1, p2, p3, .int .i64 x] 26)) P l x W.heap.size p1 p2 p3 := ⟨Box.new W _ _ _ _ _, h.alloc _⟩
set_option maxHeartbeats 4000000 in
set_option maxRecDepth 100000 in
theorem finds_inner {w : World} {N : Nd} {vk vv vi kv yv : Value} {K V : List UInt8} (h : NdAt w N vk vv vi) (hf : Fits N) (hk : Sl w kv K) (hy : Sl w yv V) (hkl : K.length ≤ 140737488355328) (hyl : V.length ≤ 140737488355328)
    (hrk : (N.keys.length + 1) * 24 ≤ 140737488355328) (hrv : (N.vals.length + 1) * 24 ≤ 140737488355328) (hs : N.sound = true) (hlf : N.leaf = false) :
    Calls Try.prog 6 #[.agg #[.bool N.leaf, vk, vv, vi, .int .i64 N.next], kv, yv] w fun e w' => e = .returned (.bool true) ∧ Below w.heap.size w w' := by
  have HSD := sd_of hs
  have hz := sd_size HSD hf
  have hm := sound_matched hs
  obtain ⟨ak, ck, rfl, _, _⟩ := h.keys.len
  obtain ⟨av, cv, rfl, _, _⟩ := h.vals.len
  obtain ⟨ai, ci, rfl, _, _⟩ := h.kids.len
  obtain ⟨u1, u2, rfl, _, _⟩ := hk.len
  obtain ⟨y1, y2, rfl, _, _⟩ := hy.len
  have hPN := putN_inner (K := K) (V := V) hlf
  obtain ⟨hDN, hDH⟩ := delN_inner (K := K) hlf
  have HFIT : Hid (∀ W, NdAt W N (.slice ak N.keys.length ck) (.slice av N.vals.length cv) (.slice ai N.kids.length ci) → Calls Try.prog 12 #[.agg #[.bool false, .slice ak N.keys.length ck, .slice av N.vals.length cv, .slice ai N.kids.length ci, .int .i64 N.next]] W fun e w' => e = .returned (.bool true) ∧ Below W.heap.size W w') := fun W hW => by
    have := lfit_any hW hf
    rw [hs, hlf] at this
    exact this
  have HFN : Hid (∀ W a b c kv, NdAt W N a b c → Sl W kv K → Calls Try.prog 21 #[.agg #[.bool false, a, b, c, .int .i64 N.next], kv] W fun e w' => e = .returned (.tuple #[.int .i64 (plc N.keys K : Int), .bool (hasK N.keys K)]) ∧ Below W.heap.size W w') := fun W a b c kv h1 h2 => findF hf hlf rfl rfl rfl h1 h2
  have HTN : Hid (∀ W a b c, NdAt W N a b c → Calls Try.prog 17 #[.agg #[.bool false, a, b, c, .int .i64 N.next]] W fun e w' => ∃ uk uv, e = .returned (.agg #[.bool false, uk, uv, c, .int .i64 N.next]) ∧ Below W.heap.size W w' ∧ RdAt w' N uk uv c) := fun W a b c h1 => toF hf hlf rfl h1
  have HRF : Hid (∀ W a b c, RdAt W N a b c → Calls Try.prog 22 #[.agg #[.bool false, a, b, c, .int .i64 N.next], .string (strOf K)] W fun e w' => e = .returned (.tuple #[.int .i64 (plc N.keys K : Int), .bool (hasK N.keys K)]) ∧ Below W.heap.size W w') := fun W a b c h1 => rfindF hf hlf rfl rfl rfl h1
  have HSZ : Hid (∀ W a b c, NdAt W N a b c → Calls Try.prog 23 #[.agg #[.bool false, a, b, c, .int .i64 N.next]] W fun e w' => e = .returned (.int .i64 (N.size : Int)) ∧ Below W.heap.size W w') := fun W a b c h1 => sizeF hf hz hlf rfl rfl h1
  have HRS : Hid (∀ W a b c, RdAt W N a b c → Calls Try.prog 24 #[.agg #[.bool false, a, b, c, .int .i64 N.next]] W fun e w' => e = .returned (.int .i64 (N.size : Int)) ∧ Below W.heap.size W w') := fun W a b c h1 => rsizeF hf hz hlf rfl rfl h1
  have HSM : Hid (∀ W a b c a' b' c', RdAt W N a b c → RdAt W N a' b' c' → Calls Try.prog 16 #[.agg #[.bool false, a, b, c, .int .i64 N.next], .agg #[.bool false, a', b', c', .int .i64 N.next]] W fun e w' => e = .returned (.bool true) ∧ Below W.heap.size W w') := fun W a b c a' b' c' h1 h2 => sameF hf hlf rfl h1 h2
  have HPU : Hid (∀ W a b c kv yv, NdAt W N a b c → Sl W kv K → Sl W yv V → Calls Try.prog 10 #[.agg #[.bool false, a, b, c, .int .i64 N.next], kv, yv] W fun e w' => ∃ a' b' c', e = .returned (.agg #[.bool false, a', b', c', .int .i64 N.next]) ∧ Below W.heap.size W w' ∧ NdAt w' N a' b' c') := fun W a b c kv yv h1 h2 h3 => putF hf hkl hyl hrk hrv hlf rfl hPN h1 h2 h3
  have HDE : Hid (∀ W a b c kv, NdAt W N a b c → Sl W kv K → Calls Try.prog 9 #[.agg #[.bool false, a, b, c, .int .i64 N.next], kv] W fun e w' => ∃ a' b' c', e = .returned (.tuple #[.agg #[.bool false, a', b', c', .int .i64 N.next], .bool false]) ∧ Below W.heap.size W w' ∧ NdAt w' N a' b' c') := fun W a b c kv h1 h2 => delF hf hlf rfl hDN hDH h1 h2
  have HAW := hide awake_any
  have hb0 : Below w.heap.size w (w.alloc (.cells #[.bool N.leaf, .slice ak N.keys.length ck, .slice av N.vals.length cv, .slice ai N.kids.length ci, .int .i64 N.next] 26)) := (Below.refl _ _).alloc (Nat.le_refl _) _
  have HS0 := hide (show NSt w _ N N.leaf N.next _ _ _ _ _ K V from ⟨hb0, Box.new (t := 26) w (.bool N.leaf) (.slice ak N.keys.length ck) (.slice av N.vals.length cv) (.slice ai N.kids.length ci) (.int .i64 N.next), h.belowW hb0, hk.belowW hb0, hy.belowW hb0⟩)
  have hkf := hf.keys
  clear hb0 h hf hk hy hkl hyl hs hz hm HSD
  clear hPN hDN hDH
  rw [hlf] at HS0
  generalize hasK N.keys K = hh at *
  rw [hlf]
  clear hlf
  generalize plc N.keys K = pp at *
  generalize N.size = sz at *
  generalize hnk : N.keys.length = nk at *
  have HNK := hide hnk
  clear hnk
  generalize hnv : N.vals.length = nv at *
  clear hnv
  generalize hni : N.kids.length = ni at *
  clear hni
  generalize N.next = x at *
  go_enter Try.func6, Try.ntmps6
  go_upto_region 1 with fail
  generalize (w.alloc (.cells #[.bool false, .slice ak nk ck, .slice av nv cv, .slice ai ni ci, .int .i64 x] 26)) = W0 at *
  obtain ⟨k0, k1, k2, k3, k4, f0, f1, f2, f3, f4⟩ := HS0.out.nb.cells
  go_wp2_with fail
  refine (HFIT.out W0 HS0.out.na).mono ?_
  rintro e W1 ⟨rfl, hq1⟩
  clear k0 k1 k2 k3 k4 f0 f1 f2 f3 f4
  have HS1 := hide (HS0.out.next hq1)
  clear hq1 HS0 HFIT
  obtain ⟨k0, k1, k2, k3, k4, f0, f1, f2, f3, f4⟩ := HS1.out.nb.cells
  go_upto_region 3 with fail
  go_wp2_with fail
  refine (HFN.out W1 _ _ _ _ HS1.out.na HS1.out.k).mono ?_
  rintro e W2 ⟨rfl, hq2⟩
  clear k0 k1 k2 k3 k4 f0 f1 f2 f3 f4
  have HS2 := hide (HS1.out.next hq2)
  clear hq2 HS1
  go_upto_region 4 with fail
  have st0 := HS2.out.next (below_drewN _ _ 1)
  refine wp_region_held_drew (S := fun w' => NSt w w' N false x (.slice ak nk ck) (.slice av nv cv) (.slice ai ni ci) (.slice u1 K.length u2) (.slice y1 V.length y2) K V) (by kernel_rfl) st0 (fun _ => ?_)
  refine take_to 0 32 (.agg #[.bool false, .slice ak nk ck, .slice av nv cv, .slice ai ni ci, .int .i64 x]) rfl (by kernel_rfl) (by kernel_rfl) (by kernel_rfl) (fun _ _ _ h => h) rfl (by rfl) (fun w hw => op_load _ _ 26 (.tmp 3) rfl (.pointer (some ⟨_, 0, none⟩)) _ rfl (load26 hw.nb)) st0 ?_
  simp only [Act.put, List.setIfInBounds_toArray, List.set_cons_zero, List.set_cons_succ]
  refine take_to 2 34 (.slice u1 K.length u2) rfl (by kernel_rfl) (by kernel_rfl) (by kernel_rfl) (fun _ _ _ h => h) rfl (by rfl) (fun w hw => by rfl) st0 ?_
  simp only [Act.put, List.setIfInBounds_toArray, List.set_cons_zero, List.set_cons_succ]
  refine take_to 3 35 (.string (strOf K)) rfl (by kernel_rfl) (by kernel_rfl) (by kernel_rfl) (fun _ _ _ h => h) rfl (by rfl) (fun w hw => op_conv _ _ 28 9 (.tmp 34) rfl _ _ rfl (run_str hw.k)) st0 ?_
  simp only [Act.put, List.setIfInBounds_toArray, List.set_cons_zero, List.set_cons_succ]
  refine step_call1_to 1 33 17 rfl (by kernel_rfl) rfl (by rfl) (.tmp 32) _ rfl _ rfl Try.enters17 (HTN.out _ _ _ _ st0.na) ?_
  rintro e T1 ⟨r1, r2, rfl, hq1, hr1⟩
  have st1 := st0.next hq1
  refine ⟨_, rfl, st1, ?_⟩
  simp only [Act.put, List.setIfInBounds_toArray, List.set_cons_zero, List.set_cons_succ]
  refine step_call2_to 4 36 22 rfl (by kernel_rfl) rfl (by rfl) (.tmp 33) (.tmp 35) _ rfl _ _ rfl rfl Try.enters22 (HRF.out _ _ _ _ hr1) ?_
  rintro e T2 ⟨rfl, hq2⟩
  have st2 := st1.next hq2
  refine ⟨_, rfl, st2, ?_⟩
  simp only [Act.put, List.setIfInBounds_toArray, List.set_cons_zero, List.set_cons_succ]
  refine take_to 5 31 (.tuple #[.int .i64 (pp : Int), .bool hh]) rfl (by kernel_rfl) (by kernel_rfl) (by kernel_rfl) (fun _ _ _ h => h) rfl (by rfl) (fun w hw => by rfl) st2 ?_
  simp only [Act.put, List.setIfInBounds_toArray, List.set_cons_zero, List.set_cons_succ]
  refine take_to 6 37 (.int .i64 (pp : Int)) rfl (by kernel_rfl) (by kernel_rfl) (by kernel_rfl) (fun _ _ _ h => h) rfl (by rfl) (fun w hw => by rfl) st2 ?_
  simp only [Act.put, List.setIfInBounds_toArray, List.set_cons_zero, List.set_cons_succ]
  refine take_to 7 38 (.bool hh) rfl (by kernel_rfl) (by kernel_rfl) (by kernel_rfl) (fun _ _ _ h => h) rfl (by rfl) (fun w hw => by rfl) st2 ?_
  simp only [Act.put, List.setIfInBounds_toArray, List.set_cons_zero, List.set_cons_succ]
  refine take_to 8 9 (.int .i64 (pp : Int)) rfl (by kernel_rfl) (by kernel_rfl) (by kernel_rfl) (fun _ _ _ h => h) rfl (by rfl) (fun w hw => by rfl) st2 ?_
  simp only [Act.put, List.setIfInBounds_toArray, List.set_cons_zero, List.set_cons_succ]
  refine take_to 9 10 (.bool hh) rfl (by kernel_rfl) (by kernel_rfl) (by kernel_rfl) (fun _ _ _ h => h) rfl (by rfl) (fun w hw => by rfl) st2 ?_
  simp only [Act.put, List.setIfInBounds_toArray, List.set_cons_zero, List.set_cons_succ]
  refine wpAnyH_done (by kernel_rfl) ?_ _
  have HS3 := hide st2
  clear st0 st1 st2 hq1 hq2 hr1 HS2 HRF
  go_upto_region 5 with fail
  obtain ⟨k0, k1, k2, k3, k4, f0, f1, f2, f3, f4⟩ := HS3.out.nb.cells
  go_wp2_with fail
  refine (HPU.out _ _ _ _ _ _ HS3.out.na HS3.out.k HS3.out.y).mono ?_
  rintro e W3 ⟨m1, m2, m3, rfl, hq3, hm3⟩
  clear k0 k1 k2 k3 k4 f0 f1 f2 f3 f4
  have hs3 := HS3.out.next hq3
  obtain ⟨pa, pc, e1, _, _⟩ := hm3.keys.len
  obtain ⟨qa, qc, e2, _, _⟩ := hm3.vals.len
  obtain ⟨ra, rc, e3, _, _⟩ := hm3.kids.len
  generalize hpn : N.keys.length = pn at *
  generalize hqn : N.vals.length = qn at *
  generalize N.kids.length = rn at *
  subst e1 e2 e3
  have HPN := hide hpn
  have HQN := hide hqn
  clear hpn hqn
  have hal : Below W3.heap.size W3 (W3.alloc (.cells #[.bool false, .slice pa pn pc, .slice qa qn qc, .slice ra rn rc, .int .i64 x] 26)) := (Below.refl _ _).alloc (Nat.le_refl _) _
  have HS4 := hide (hs3.next hal)
  have HM4 := hide (MSt.new (l := false) (x := x) hm3)
  clear hq3 hm3 hs3 hal HS3 HPU
  go_upto_region 6 with fail
  generalize W3.alloc (.cells #[.bool false, .slice pa pn pc, .slice qa qn qc, .slice ra rn rc, .int .i64 x] 26) = W4 at *
  generalize W3.heap.size = bm at *
  obtain ⟨k0, k1, k2, k3, k4, f0, f1, f2, f3, f4⟩ := HS4.out.nb.cells
  go_wp2_with fail
  refine (HDE.out _ _ _ _ _ HS4.out.na HS4.out.k).mono ?_
  rintro e W5 ⟨d1, d2, d3, rfl, hq5, hd5⟩
  clear k0 k1 k2 k3 k4 f0 f1 f2 f3 f4
  have hs5 := HS4.out.next hq5
  have hm5 := HM4.out.next hq5
  obtain ⟨da, dc, e1, _, _⟩ := hd5.keys.len
  obtain ⟨ea, ec, e2, _, _⟩ := hd5.vals.len
  obtain ⟨fa, fc, e3, _, _⟩ := hd5.kids.len
  generalize hdn : N.keys.length = dn at *
  generalize N.vals.length = en at *
  generalize N.kids.length = fn at *
  subst e1 e2 e3
  have HDN := hide hdn
  clear hdn
  have hal : Below W5.heap.size W5 (W5.alloc (.cells #[.bool false, .slice da dn dc, .slice ea en ec, .slice fa fn fc, .int .i64 x] 26)) := (Below.refl _ _).alloc (Nat.le_refl _) _
  have HS6 := hide (hs5.next hal)
  have HM6 := hide (hm5.next hal)
  have HD6 := hide (MSt.new (l := false) (x := x) hd5)
  clear hq5 hd5 hs5 hm5 hal HS4 HM4 HDE
  go_upto_region 7 with fail
  generalize W5.alloc (.cells #[.bool false, .slice da dn dc, .slice ea en ec, .slice fa fn fc, .int .i64 x] 26) = W6 at *
  generalize W5.heap.size = bd at *
  have st0 := HS6.out.next (below_drewN _ _ 1)
  refine wp_region_held_drew (S := fun w' => NSt w w' N false x (.slice ak nk ck) (.slice av nv cv) (.slice ai ni ci) (.slice u1 K.length u2) (.slice y1 V.length y2) K V) (by kernel_rfl) st0 (fun _ => ?_)
  refine take_to 0 49 (.int .i64 (pp : Int)) rfl (by kernel_rfl) (by kernel_rfl) (by kernel_rfl) (fun _ _ _ h => h) rfl (by rfl) (fun w hw => by rfl) st0 ?_
  simp only [Act.put, List.setIfInBounds_toArray, List.set_cons_zero, List.set_cons_succ]
  refine take_to 1 50 (.int .i64 (pp : Int)) rfl (by kernel_rfl) (by kernel_rfl) (by kernel_rfl) (fun _ _ _ h => h) rfl (by rfl) (fun w hw => by rfl) st0 ?_
  simp only [Act.put, List.setIfInBounds_toArray, List.set_cons_zero, List.set_cons_succ]
  refine take_to 2 51 (.bool false) rfl (by kernel_rfl) (by kernel_rfl) (by kernel_rfl) (fun _ _ _ h => h) rfl (by rfl) (fun w hw => op_neq3 _ _ (.tmp 49) (.tmp 50) _ rfl _ _ rfl rfl false (by simp)) st0 ?_
  simp only [Act.put, List.setIfInBounds_toArray, List.set_cons_zero, List.set_cons_succ]
  refine take_to 3 52 (.bool false) rfl (by kernel_rfl) (by kernel_rfl) (by kernel_rfl) (fun _ _ _ h => h) rfl (by rfl) (fun w hw => by rfl) st0 ?_
  simp only [Act.put, List.setIfInBounds_toArray, List.set_cons_zero, List.set_cons_succ]
  refine take_to 4 53 (.bool hh) rfl (by kernel_rfl) (by kernel_rfl) (by kernel_rfl) (fun _ _ _ h => h) rfl (by rfl) (fun w hw => by rfl) st0 ?_
  simp only [Act.put, List.setIfInBounds_toArray, List.set_cons_zero, List.set_cons_succ]
  refine take_to 5 54 (.bool hh) rfl (by kernel_rfl) (by kernel_rfl) (by kernel_rfl) (fun _ _ _ h => h) rfl (by rfl) (fun w hw => by rfl) st0 ?_
  simp only [Act.put, List.setIfInBounds_toArray, List.set_cons_zero, List.set_cons_succ]
  refine take_to 6 55 (.bool false) rfl (by kernel_rfl) (by kernel_rfl) (by kernel_rfl) (fun _ _ _ h => h) rfl (by rfl) (fun w hw => op_neq4 _ _ (.tmp 53) (.tmp 54) _ rfl hh rfl rfl) st0 ?_
  simp only [Act.put, List.setIfInBounds_toArray, List.set_cons_zero, List.set_cons_succ]
  refine take_to 7 56 (.bool false) rfl (by kernel_rfl) (by kernel_rfl) (by kernel_rfl) (fun _ _ _ h => h) rfl (by rfl) (fun w hw => by rfl) st0 ?_
  simp only [Act.put, List.setIfInBounds_toArray, List.set_cons_zero, List.set_cons_succ]
  refine take_to 8 57 (.bool false) rfl (by kernel_rfl) (by kernel_rfl) (by kernel_rfl) (fun _ _ _ h => h) rfl (by rfl) (fun w hw => by rfl) st0 ?_
  simp only [Act.put, List.setIfInBounds_toArray, List.set_cons_zero, List.set_cons_succ]
  refine take_to 9 58 (.agg #[.bool false, .slice ak nk ck, .slice av nv cv, .slice ai ni ci, .int .i64 x]) rfl (by kernel_rfl) (by kernel_rfl) (by kernel_rfl) (fun _ _ _ h => h) rfl (by rfl) (fun w hw => op_load _ _ 26 (.tmp 3) rfl (.pointer (some ⟨_, 0, none⟩)) _ rfl (load26 hw.nb)) st0 ?_
  simp only [Act.put, List.setIfInBounds_toArray, List.set_cons_zero, List.set_cons_succ]
  refine take_to 11 60 (.agg #[.bool false, .slice ak nk ck, .slice av nv cv, .slice ai ni ci, .int .i64 x]) rfl (by kernel_rfl) (by kernel_rfl) (by kernel_rfl) (fun _ _ _ h => h) rfl (by rfl) (fun w hw => op_load _ _ 26 (.tmp 3) rfl (.pointer (some ⟨_, 0, none⟩)) _ rfl (load26 hw.nb)) st0 ?_
  simp only [Act.put, List.setIfInBounds_toArray, List.set_cons_zero, List.set_cons_succ]
  refine step_call1_to 10 59 23 rfl (by kernel_rfl) rfl (by rfl) (.tmp 58) _ rfl _ rfl Try.enters23 (HSZ.out _ _ _ _ st0.na) ?_
  rintro e T3 ⟨rfl, hq3⟩
  have st1 := st0.next hq3
  refine ⟨_, rfl, st1, ?_⟩
  simp only [Act.put, List.setIfInBounds_toArray, List.set_cons_zero, List.set_cons_succ]
  refine step_call1_to 12 61 17 rfl (by kernel_rfl) rfl (by rfl) (.tmp 60) _ rfl _ rfl Try.enters17 (HTN.out _ _ _ _ st1.na) ?_
  rintro e T4 ⟨r3, r4, rfl, hq4, hr4⟩
  have st2 := st1.next hq4
  refine ⟨_, rfl, st2, ?_⟩
  simp only [Act.put, List.setIfInBounds_toArray, List.set_cons_zero, List.set_cons_succ]
  refine step_call1_to 13 62 24 rfl (by kernel_rfl) rfl (by rfl) (.tmp 61) _ rfl _ rfl Try.enters24 (HRS.out _ _ _ _ hr4) ?_
  rintro e T5 ⟨rfl, hq5⟩
  have st3 := st2.next hq5
  refine ⟨_, rfl, st3, ?_⟩
  simp only [Act.put, List.setIfInBounds_toArray, List.set_cons_zero, List.set_cons_succ]
  refine take_to 14 63 (.bool false) rfl (by kernel_rfl) (by kernel_rfl) (by kernel_rfl) (fun _ _ _ h => h) rfl (by rfl) (fun w hw => op_neq3 _ _ (.tmp 59) (.tmp 62) _ rfl _ _ rfl rfl false (by simp)) st3 ?_
  simp only [Act.put, List.setIfInBounds_toArray, List.set_cons_zero, List.set_cons_succ]
  refine take_to 15 64 (.bool false) rfl (by kernel_rfl) (by kernel_rfl) (by kernel_rfl) (fun _ _ _ h => h) rfl (by rfl) (fun w hw => by rfl) st3 ?_
  simp only [Act.put, List.setIfInBounds_toArray, List.set_cons_zero, List.set_cons_succ]
  refine wpAnyH_done (by kernel_rfl) ?_ _
  have hbz := ((below_drewN W6.heap.size W6 1).trans ((hq3.mono (Nat.le_refl _)).trans ((hq4.mono hq3.size).trans (hq5.mono (Nat.le_trans hq3.size hq4.size)))))
  have HS7 := hide (HS6.out.next hbz)
  have HM7 := hide (HM6.out.next hbz)
  have HD7 := hide (HD6.out.next hbz)
  clear st0 st1 st2 st3 hq3 hq4 hq5 hr4 hbz HS6 HM6 HD6 HSZ HRS
  obtain ⟨k0, k1, k2, k3, k4, f0, f1, f2, f3, f4⟩ := HS7.out.nb.cells
  go_upto_region 10 with fail
  clear k0 k1 k2 k3 k4 f0 f1 f2 f3 f4
  have hE : Below T5.heap.size T5 T5.drew := below_drewN _ _ 1
  refine wp_region_held_drew (S := fun w' => (NSt w w' N false x (.slice ak nk ck) (.slice av nv cv) (.slice ai ni ci) (.slice u1 K.length u2) (.slice y1 V.length y2) K V) ∧ MSt w' N false x bm (.slice pa pn pc) (.slice qa qn qc) (.slice ra rn rc) ∧ MSt w' N false x bd (.slice da dn dc) (.slice ea en ec) (.slice fa fn fc)) (by kernel_rfl) ⟨HS7.out.next hE, HM7.out.next hE, HD7.out.next hE⟩ (fun hh0 => ?_)
  have st0 : (NSt w T5.drew N false x (.slice ak nk ck) (.slice av nv cv) (.slice ai ni ci) (.slice u1 K.length u2) (.slice y1 V.length y2) K V) ∧ MSt T5.drew N false x bm (.slice pa pn pc) (.slice qa qn qc) (.slice ra rn rc) ∧ MSt T5.drew N false x bd (.slice da dn dc) (.slice ea en ec) (.slice fa fn fc) := hh0
  clear hh0 hE
  refine take_to 0 68 (.bool false) rfl (by kernel_rfl) (by kernel_rfl) (by kernel_rfl) (fun _ _ _ h => h) rfl (by rfl) (fun w hw => by rfl) st0 ?_
  simp only [Act.put, List.setIfInBounds_toArray, List.set_cons_zero, List.set_cons_succ]
  refine take_to 1 69 (.bool true) rfl (by kernel_rfl) (by kernel_rfl) (by kernel_rfl) (fun _ _ _ h => h) rfl (by rfl) (fun w hw => by rfl) st0 ?_
  simp only [Act.put, List.setIfInBounds_toArray, List.set_cons_zero, List.set_cons_succ]
  refine take_to 2 70 (.bool true) rfl (by kernel_rfl) (by kernel_rfl) (by kernel_rfl) (fun _ _ _ h => h) rfl (by rfl) (fun w hw => by rfl) st0 ?_
  simp only [Act.put, List.setIfInBounds_toArray, List.set_cons_zero, List.set_cons_succ]
  refine take_to 3 71 (.agg #[.bool false, .slice pa pn pc, .slice qa qn qc, .slice ra rn rc, .int .i64 x]) rfl (by kernel_rfl) (by kernel_rfl) (by kernel_rfl) (fun _ _ _ h => h) rfl (by rfl) (fun w hw => op_load _ _ 26 (.tmp 11) rfl (.pointer (some ⟨_, 0, none⟩)) _ rfl (load26 hw.2.1.box)) st0 ?_
  simp only [Act.put, List.setIfInBounds_toArray, List.set_cons_zero, List.set_cons_succ]
  refine take_to 5 73 (.agg #[.bool false, .slice ak nk ck, .slice av nv cv, .slice ai ni ci, .int .i64 x]) rfl (by kernel_rfl) (by kernel_rfl) (by kernel_rfl) (fun _ _ _ h => h) rfl (by rfl) (fun w hw => op_load _ _ 26 (.tmp 3) rfl (.pointer (some ⟨_, 0, none⟩)) _ rfl (load26 hw.1.nb)) st0 ?_
  simp only [Act.put, List.setIfInBounds_toArray, List.set_cons_zero, List.set_cons_succ]
  refine step_call1_to 4 72 17 rfl (by kernel_rfl) rfl (by rfl) (.tmp 71) _ rfl _ rfl Try.enters17 (HTN.out _ _ _ _ st0.2.1.at') ?_
  rintro e T6 ⟨r1, r2, rfl, hq1, hr1⟩
  have st1 := And.intro (st0.1.next hq1) (And.intro (st0.2.1.next hq1) (st0.2.2.next hq1))
  refine ⟨_, rfl, st1, ?_⟩
  simp only [Act.put, List.setIfInBounds_toArray, List.set_cons_zero, List.set_cons_succ]
  refine step_call1_to 6 74 17 rfl (by kernel_rfl) rfl (by rfl) (.tmp 73) _ rfl _ rfl Try.enters17 (HTN.out _ _ _ _ st1.1.na) ?_
  rintro e T7 ⟨r3, r4, rfl, hq2, hr2⟩
  have st2 := And.intro (st1.1.next hq2) (And.intro (st1.2.1.next hq2) (st1.2.2.next hq2))
  refine ⟨_, rfl, st2, ?_⟩
  simp only [Act.put, List.setIfInBounds_toArray, List.set_cons_zero, List.set_cons_succ]
  refine step_call2_to 7 75 16 rfl (by kernel_rfl) rfl (by rfl) (.tmp 72) (.tmp 74) _ rfl _ _ rfl rfl Try.enters16 (HSM.out _ _ _ _ _ _ _ (hr1.belowW hq2) hr2) ?_
  rintro e T8 ⟨rfl, hq3⟩
  have st3 := And.intro (st2.1.next hq3) (And.intro (st2.2.1.next hq3) (st2.2.2.next hq3))
  refine ⟨_, rfl, st3, ?_⟩
  simp only [Act.put, List.setIfInBounds_toArray, List.set_cons_zero, List.set_cons_succ]
  refine take_to 8 76 (.bool true) rfl (by kernel_rfl) (by kernel_rfl) (by kernel_rfl) (fun _ _ _ h => h) rfl (by rfl) (fun w hw => by rfl) st3 ?_
  simp only [Act.put, List.setIfInBounds_toArray, List.set_cons_zero, List.set_cons_succ]
  refine take_to 9 77 (.bool true) rfl (by kernel_rfl) (by kernel_rfl) (by kernel_rfl) (fun _ _ _ h => h) rfl (by rfl) (fun w hw => by rfl) st3 ?_
  simp only [Act.put, List.setIfInBounds_toArray, List.set_cons_zero, List.set_cons_succ]
  refine take_to 10 78 (.agg #[.bool false, .slice da dn dc, .slice ea en ec, .slice fa fn fc, .int .i64 x]) rfl (by kernel_rfl) (by kernel_rfl) (by kernel_rfl) (fun _ _ _ h => h) rfl (by rfl) (fun w hw => op_load _ _ 26 (.tmp 12) rfl (.pointer (some ⟨_, 0, none⟩)) _ rfl (load26 hw.2.2.box)) st3 ?_
  simp only [Act.put, List.setIfInBounds_toArray, List.set_cons_zero, List.set_cons_succ]
  refine take_to 12 80 (.agg #[.bool false, .slice ak nk ck, .slice av nv cv, .slice ai ni ci, .int .i64 x]) rfl (by kernel_rfl) (by kernel_rfl) (by kernel_rfl) (fun _ _ _ h => h) rfl (by rfl) (fun w hw => op_load _ _ 26 (.tmp 3) rfl (.pointer (some ⟨_, 0, none⟩)) _ rfl (load26 hw.1.nb)) st3 ?_
  simp only [Act.put, List.setIfInBounds_toArray, List.set_cons_zero, List.set_cons_succ]
  refine step_call1_to 11 79 17 rfl (by kernel_rfl) rfl (by rfl) (.tmp 78) _ rfl _ rfl Try.enters17 (HTN.out _ _ _ _ st3.2.2.at') ?_
  rintro e T9 ⟨r5, r6, rfl, hq4, hr4⟩
  have st4 := And.intro (st3.1.next hq4) (And.intro (st3.2.1.next hq4) (st3.2.2.next hq4))
  refine ⟨_, rfl, st4, ?_⟩
  simp only [Act.put, List.setIfInBounds_toArray, List.set_cons_zero, List.set_cons_succ]
  refine step_call1_to 13 81 17 rfl (by kernel_rfl) rfl (by rfl) (.tmp 80) _ rfl _ rfl Try.enters17 (HTN.out _ _ _ _ st4.1.na) ?_
  rintro e T10 ⟨r7, r8, rfl, hq5, hr5⟩
  have st5 := And.intro (st4.1.next hq5) (And.intro (st4.2.1.next hq5) (st4.2.2.next hq5))
  refine ⟨_, rfl, st5, ?_⟩
  simp only [Act.put, List.setIfInBounds_toArray, List.set_cons_zero, List.set_cons_succ]
  refine step_call2_to 14 82 16 rfl (by kernel_rfl) rfl (by rfl) (.tmp 79) (.tmp 81) _ rfl _ _ rfl rfl Try.enters16 (HSM.out _ _ _ _ _ _ _ (hr4.belowW hq5) hr5) ?_
  rintro e T11 ⟨rfl, hq6⟩
  have st6 := And.intro (st5.1.next hq6) (And.intro (st5.2.1.next hq6) (st5.2.2.next hq6))
  refine ⟨_, rfl, st6, ?_⟩
  simp only [Act.put, List.setIfInBounds_toArray, List.set_cons_zero, List.set_cons_succ]
  refine take_to 15 83 (.bool true) rfl (by kernel_rfl) (by kernel_rfl) (by kernel_rfl) (fun _ _ _ h => h) rfl (by rfl) (fun w hw => by rfl) st6 ?_
  simp only [Act.put, List.setIfInBounds_toArray, List.set_cons_zero, List.set_cons_succ]
  refine take_to 16 84 (.bool true) rfl (by kernel_rfl) (by kernel_rfl) (by kernel_rfl) (fun _ _ _ h => h) rfl (by rfl) (fun w hw => by rfl) st6 ?_
  simp only [Act.put, List.setIfInBounds_toArray, List.set_cons_zero, List.set_cons_succ]
  refine step_call0_to 17 85 11 rfl (by kernel_rfl) rfl (by rfl) _ rfl Try.enters11 (HAW.out _) ?_
  rintro e T12 ⟨rfl, hq7⟩
  have st7 := And.intro (st6.1.next hq7) (And.intro (st6.2.1.next hq7) (st6.2.2.next hq7))
  refine ⟨_, rfl, st7, ?_⟩
  simp only [Act.put, List.setIfInBounds_toArray, List.set_cons_zero, List.set_cons_succ]
  refine take_to 18 86 (.bool true) rfl (by kernel_rfl) (by kernel_rfl) (by kernel_rfl) (fun _ _ _ h => h) rfl (by rfl) (fun w hw => by rfl) st7 ?_
  simp only [Act.put, List.setIfInBounds_toArray, List.set_cons_zero, List.set_cons_succ]
  refine take_to 19 6 (.bool true) rfl (by kernel_rfl) (by kernel_rfl) (by kernel_rfl) (fun _ _ _ h => h) rfl (by rfl) (fun w hw => by rfl) st7 ?_
  simp only [Act.put, List.setIfInBounds_toArray, List.set_cons_zero, List.set_cons_succ]
  refine wpAnyH_done (by kernel_rfl) ?_ _
  have HBE := hide st7.1.below
  clear st0 st1 st2 st3 st4 st5 st6 st7 hq1 hq2 hq3 hq4 hq5 hq6 hq7 hr1 hr2 hr4 hr5
  go_wp2
  go_ret
  exact ⟨rfl, HBE.out⟩
set_option maxHeartbeats 4000000 in
set_option maxRecDepth 100000 in
theorem finds_has {w : World} {N : Nd} {vk vv vi kv yv : Value} {K V : List UInt8} (h : NdAt w N vk vv vi) (hf : Fits N) (hk : Sl w kv K) (hy : Sl w yv V) (hkl : K.length ≤ 140737488355328) (hyl : V.length ≤ 140737488355328)
    (hrk : (N.keys.length + 1) * 24 ≤ 140737488355328) (hrv : (N.vals.length + 1) * 24 ≤ 140737488355328) (hs : N.sound = true) (hlf : N.leaf = true) (hhk : hasK N.keys K = true) :
    Calls Try.prog 6 #[.agg #[.bool N.leaf, vk, vv, vi, .int .i64 N.next], kv, yv] w fun e w' => e = .returned (.bool true) ∧ Below w.heap.size w w' := by
  have HSD := sd_of hs
  have hz := sd_size HSD hf
  have hm := sound_matched hs
  obtain ⟨ak, ck, rfl, _, _⟩ := h.keys.len
  obtain ⟨av, cv, rfl, _, _⟩ := h.vals.len
  obtain ⟨ai, ci, rfl, _, _⟩ := h.kids.len
  obtain ⟨u1, u2, rfl, _, _⟩ := hk.len
  obtain ⟨y1, y2, rfl, _, _⟩ := hy.len
  have hPI := put_is (K := K) (V := V) hlf hm
  have hPF := put_fits (K := K) (V := V) hf hkl hyl hrk hrv
  have hDF := del_fits (K := K) hf
  have hDL : (delN N K).keys.length = N.keys.length - 1 := by rw [delN_yes hlf hm hhk]; exact cutL_len _ _ (hasK_lt hhk)
  have hDG : hasK (delN N K).keys K = false := by rw [delN_yes hlf hm hhk]; exact cut_hasnt hhk (fun i j hij hj => rises HSD hij hj)
  have hDH : delH N K = true := by rw [delH_leaf hlf hm]; exact hhk
  have hk0 : 0 < N.keys.length := Nat.lt_of_le_of_lt (Nat.zero_le _) (hasK_lt hhk)
  have hPK : (putN N K V).keys.length = N.keys.length := by rw [hPI.len, hhk]; rfl
  have HFIT : Hid (∀ W, NdAt W N (.slice ak N.keys.length ck) (.slice av N.vals.length cv) (.slice ai N.kids.length ci) → Calls Try.prog 12 #[.agg #[.bool true, .slice ak N.keys.length ck, .slice av N.vals.length cv, .slice ai N.kids.length ci, .int .i64 N.next]] W fun e w' => e = .returned (.bool true) ∧ Below W.heap.size W w') := fun W hW => by
    have := lfit_any hW hf
    rw [hs, hlf] at this
    exact this
  have HFN : Hid (∀ W a b c kv, NdAt W N a b c → Sl W kv K → Calls Try.prog 21 #[.agg #[.bool true, a, b, c, .int .i64 N.next], kv] W fun e w' => e = .returned (.tuple #[.int .i64 (plc N.keys K : Int), .bool true]) ∧ Below W.heap.size W w') := fun W a b c kv h1 h2 => findF hf hlf rfl rfl hhk h1 h2
  have HTN : Hid (∀ W a b c, NdAt W N a b c → Calls Try.prog 17 #[.agg #[.bool true, a, b, c, .int .i64 N.next]] W fun e w' => ∃ uk uv, e = .returned (.agg #[.bool true, uk, uv, c, .int .i64 N.next]) ∧ Below W.heap.size W w' ∧ RdAt w' N uk uv c) := fun W a b c h1 => toF hf hlf rfl h1
  have HRF : Hid (∀ W a b c, RdAt W N a b c → Calls Try.prog 22 #[.agg #[.bool true, a, b, c, .int .i64 N.next], .string (strOf K)] W fun e w' => e = .returned (.tuple #[.int .i64 (plc N.keys K : Int), .bool true]) ∧ Below W.heap.size W w') := fun W a b c h1 => rfindF hf hlf rfl rfl hhk h1
  have HSZ : Hid (∀ W a b c, NdAt W N a b c → Calls Try.prog 23 #[.agg #[.bool true, a, b, c, .int .i64 N.next]] W fun e w' => e = .returned (.int .i64 (N.size : Int)) ∧ Below W.heap.size W w') := fun W a b c h1 => sizeF hf hz hlf rfl rfl h1
  have HRS : Hid (∀ W a b c, RdAt W N a b c → Calls Try.prog 24 #[.agg #[.bool true, a, b, c, .int .i64 N.next]] W fun e w' => e = .returned (.int .i64 (N.size : Int)) ∧ Below W.heap.size W w') := fun W a b c h1 => rsizeF hf hz hlf rfl rfl h1
  have HSM : Hid (∀ W a b c a' b' c', RdAt W N a b c → RdAt W N a' b' c' → Calls Try.prog 16 #[.agg #[.bool true, a, b, c, .int .i64 N.next], .agg #[.bool true, a', b', c', .int .i64 N.next]] W fun e w' => e = .returned (.bool true) ∧ Below W.heap.size W w') := fun W a b c a' b' c' h1 h2 => sameF hf hlf rfl h1 h2
  have HPU : Hid (∀ W a b c kv yv, NdAt W N a b c → Sl W kv K → Sl W yv V → Calls Try.prog 10 #[.agg #[.bool true, a, b, c, .int .i64 N.next], kv, yv] W fun e w' => ∃ a' b' c', e = .returned (.agg #[.bool true, a', b', c', .int .i64 N.next]) ∧ Below W.heap.size W w' ∧ NdAt w' (putN N K V) a' b' c') := fun W a b c kv yv h1 h2 h3 => putF hf hkl hyl hrk hrv hlf rfl rfl h1 h2 h3
  have HDE : Hid (∀ W a b c kv, NdAt W N a b c → Sl W kv K → Calls Try.prog 9 #[.agg #[.bool true, a, b, c, .int .i64 N.next], kv] W fun e w' => ∃ a' b' c', e = .returned (.tuple #[.agg #[.bool true, a', b', c', .int .i64 N.next], .bool true]) ∧ Below W.heap.size W w' ∧ NdAt w' (delN N K) a' b' c') := fun W a b c kv h1 h2 => delF hf hlf rfl rfl hDH h1 h2
  have HFP : Hid (∀ W a b c kv, NdAt W (putN N K V) a b c → Sl W kv K → Calls Try.prog 21 #[.agg #[.bool true, a, b, c, .int .i64 N.next], kv] W fun e w' => e = .returned (.tuple #[.int .i64 (plc N.keys K : Int), .bool true]) ∧ Below W.heap.size W w') := fun W a b c kv h1 h2 => findF hPF hPI.leaf hPI.next hPI.at' hPI.has h1 h2
  have HFD : Hid (∀ W a b c kv, NdAt W (delN N K) a b c → Sl W kv K → Calls Try.prog 21 #[.agg #[.bool true, a, b, c, .int .i64 N.next], kv] W fun e w' => e = .returned (.tuple #[.int .i64 (plc (delN N K).keys K : Int), .bool false]) ∧ Below W.heap.size W w') := fun W a b c kv h1 h2 => findF hDF ((delN_leaf N K).trans hlf) (delN_next N K) rfl hDG h1 h2
  have HDP : Hid (∀ W a b c kv, NdAt W (putN N K V) a b c → Sl W kv K → Calls Try.prog 9 #[.agg #[.bool true, a, b, c, .int .i64 N.next], kv] W fun e w' => ∃ a' b' c', e = .returned (.tuple #[.agg #[.bool true, a', b', c', .int .i64 N.next], .bool (delH (putN N K V) K)]) ∧ Below W.heap.size W w' ∧ NdAt w' (delN (putN N K V) K) a' b' c') := fun W a b c kv h1 h2 => delF hPF hPI.leaf hPI.next rfl rfl h1 h2
  have HLG := hide hPI.long
  have HVA := hide hPI.val
  have HPK := hide hPK
  have HDL := hide hDL
  have HK0 := hide hk0
  have HAW := hide awake_any
  have hb0 : Below w.heap.size w (w.alloc (.cells #[.bool N.leaf, .slice ak N.keys.length ck, .slice av N.vals.length cv, .slice ai N.kids.length ci, .int .i64 N.next] 26)) := (Below.refl _ _).alloc (Nat.le_refl _) _
  have HS0 := hide (show NSt w _ N N.leaf N.next _ _ _ _ _ K V from ⟨hb0, Box.new (t := 26) w (.bool N.leaf) (.slice ak N.keys.length ck) (.slice av N.vals.length cv) (.slice ai N.kids.length ci) (.int .i64 N.next), h.belowW hb0, hk.belowW hb0, hy.belowW hb0⟩)
  have hkf := hf.keys
  clear hb0 h hf hk hy hkl hyl hs hz hm HSD
  clear hPI hPF hDF hDL hDG hDH hPK hk0
  rw [hlf] at HS0
  generalize putN N K V = P at *
  generalize delH P K = dq at *
  generalize delN P K = Bk at *
  generalize delN N K = D at *
  generalize plc D.keys K = pd at *
  rw [hlf]
  clear hlf
  clear hhk
  generalize plc N.keys K = pp at *
  generalize N.size = sz at *
  generalize hnk : N.keys.length = nk at *
  have HNK := hide hnk
  clear hnk
  generalize hnv : N.vals.length = nv at *
  clear hnv
  generalize hni : N.kids.length = ni at *
  clear hni
  generalize N.next = x at *
  go_enter Try.func6, Try.ntmps6
  go_upto_region 1 with fail
  generalize (w.alloc (.cells #[.bool true, .slice ak nk ck, .slice av nv cv, .slice ai ni ci, .int .i64 x] 26)) = W0 at *
  obtain ⟨k0, k1, k2, k3, k4, f0, f1, f2, f3, f4⟩ := HS0.out.nb.cells
  go_wp2_with fail
  refine (HFIT.out W0 HS0.out.na).mono ?_
  rintro e W1 ⟨rfl, hq1⟩
  clear k0 k1 k2 k3 k4 f0 f1 f2 f3 f4
  have HS1 := hide (HS0.out.next hq1)
  clear hq1 HS0 HFIT
  obtain ⟨k0, k1, k2, k3, k4, f0, f1, f2, f3, f4⟩ := HS1.out.nb.cells
  go_upto_region 3 with fail
  go_wp2_with fail
  refine (HFN.out W1 _ _ _ _ HS1.out.na HS1.out.k).mono ?_
  rintro e W2 ⟨rfl, hq2⟩
  clear k0 k1 k2 k3 k4 f0 f1 f2 f3 f4
  have HS2 := hide (HS1.out.next hq2)
  clear hq2 HS1
  go_upto_region 4 with fail
  have st0 := HS2.out.next (below_drewN _ _ 1)
  refine wp_region_held_drew (S := fun w' => NSt w w' N true x (.slice ak nk ck) (.slice av nv cv) (.slice ai ni ci) (.slice u1 K.length u2) (.slice y1 V.length y2) K V) (by kernel_rfl) st0 (fun _ => ?_)
  refine take_to 0 32 (.agg #[.bool true, .slice ak nk ck, .slice av nv cv, .slice ai ni ci, .int .i64 x]) rfl (by kernel_rfl) (by kernel_rfl) (by kernel_rfl) (fun _ _ _ h => h) rfl (by rfl) (fun w hw => op_load _ _ 26 (.tmp 3) rfl (.pointer (some ⟨_, 0, none⟩)) _ rfl (load26 hw.nb)) st0 ?_
  simp only [Act.put, List.setIfInBounds_toArray, List.set_cons_zero, List.set_cons_succ]
  refine take_to 2 34 (.slice u1 K.length u2) rfl (by kernel_rfl) (by kernel_rfl) (by kernel_rfl) (fun _ _ _ h => h) rfl (by rfl) (fun w hw => by rfl) st0 ?_
  simp only [Act.put, List.setIfInBounds_toArray, List.set_cons_zero, List.set_cons_succ]
  refine take_to 3 35 (.string (strOf K)) rfl (by kernel_rfl) (by kernel_rfl) (by kernel_rfl) (fun _ _ _ h => h) rfl (by rfl) (fun w hw => op_conv _ _ 28 9 (.tmp 34) rfl _ _ rfl (run_str hw.k)) st0 ?_
  simp only [Act.put, List.setIfInBounds_toArray, List.set_cons_zero, List.set_cons_succ]
  refine step_call1_to 1 33 17 rfl (by kernel_rfl) rfl (by rfl) (.tmp 32) _ rfl _ rfl Try.enters17 (HTN.out _ _ _ _ st0.na) ?_
  rintro e T1 ⟨r1, r2, rfl, hq1, hr1⟩
  have st1 := st0.next hq1
  refine ⟨_, rfl, st1, ?_⟩
  simp only [Act.put, List.setIfInBounds_toArray, List.set_cons_zero, List.set_cons_succ]
  refine step_call2_to 4 36 22 rfl (by kernel_rfl) rfl (by rfl) (.tmp 33) (.tmp 35) _ rfl _ _ rfl rfl Try.enters22 (HRF.out _ _ _ _ hr1) ?_
  rintro e T2 ⟨rfl, hq2⟩
  have st2 := st1.next hq2
  refine ⟨_, rfl, st2, ?_⟩
  simp only [Act.put, List.setIfInBounds_toArray, List.set_cons_zero, List.set_cons_succ]
  refine take_to 5 31 (.tuple #[.int .i64 (pp : Int), .bool true]) rfl (by kernel_rfl) (by kernel_rfl) (by kernel_rfl) (fun _ _ _ h => h) rfl (by rfl) (fun w hw => by rfl) st2 ?_
  simp only [Act.put, List.setIfInBounds_toArray, List.set_cons_zero, List.set_cons_succ]
  refine take_to 6 37 (.int .i64 (pp : Int)) rfl (by kernel_rfl) (by kernel_rfl) (by kernel_rfl) (fun _ _ _ h => h) rfl (by rfl) (fun w hw => by rfl) st2 ?_
  simp only [Act.put, List.setIfInBounds_toArray, List.set_cons_zero, List.set_cons_succ]
  refine take_to 7 38 (.bool true) rfl (by kernel_rfl) (by kernel_rfl) (by kernel_rfl) (fun _ _ _ h => h) rfl (by rfl) (fun w hw => by rfl) st2 ?_
  simp only [Act.put, List.setIfInBounds_toArray, List.set_cons_zero, List.set_cons_succ]
  refine take_to 8 9 (.int .i64 (pp : Int)) rfl (by kernel_rfl) (by kernel_rfl) (by kernel_rfl) (fun _ _ _ h => h) rfl (by rfl) (fun w hw => by rfl) st2 ?_
  simp only [Act.put, List.setIfInBounds_toArray, List.set_cons_zero, List.set_cons_succ]
  refine take_to 9 10 (.bool true) rfl (by kernel_rfl) (by kernel_rfl) (by kernel_rfl) (fun _ _ _ h => h) rfl (by rfl) (fun w hw => by rfl) st2 ?_
  simp only [Act.put, List.setIfInBounds_toArray, List.set_cons_zero, List.set_cons_succ]
  refine wpAnyH_done (by kernel_rfl) ?_ _
  have HS3 := hide st2
  clear st0 st1 st2 hq1 hq2 hr1 HS2 HRF
  go_upto_region 5 with fail
  obtain ⟨k0, k1, k2, k3, k4, f0, f1, f2, f3, f4⟩ := HS3.out.nb.cells
  go_wp2_with fail
  refine (HPU.out _ _ _ _ _ _ HS3.out.na HS3.out.k HS3.out.y).mono ?_
  rintro e W3 ⟨m1, m2, m3, rfl, hq3, hm3⟩
  clear k0 k1 k2 k3 k4 f0 f1 f2 f3 f4
  have hs3 := HS3.out.next hq3
  obtain ⟨pa, pc, e1, _, _⟩ := hm3.keys.len
  obtain ⟨qa, qc, e2, _, _⟩ := hm3.vals.len
  obtain ⟨ra, rc, e3, _, _⟩ := hm3.kids.len
  generalize hpn : P.keys.length = pn at *
  generalize hqn : P.vals.length = qn at *
  generalize P.kids.length = rn at *
  subst e1 e2 e3
  have HPN := hide hpn
  have HQN := hide hqn
  clear hpn hqn
  have hal : Below W3.heap.size W3 (W3.alloc (.cells #[.bool true, .slice pa pn pc, .slice qa qn qc, .slice ra rn rc, .int .i64 x] 26)) := (Below.refl _ _).alloc (Nat.le_refl _) _
  have HS4 := hide (hs3.next hal)
  have HM4 := hide (MSt.new (l := true) (x := x) hm3)
  clear hq3 hm3 hs3 hal HS3 HPU
  go_upto_region 6 with fail
  generalize W3.alloc (.cells #[.bool true, .slice pa pn pc, .slice qa qn qc, .slice ra rn rc, .int .i64 x] 26) = W4 at *
  generalize W3.heap.size = bm at *
  obtain ⟨k0, k1, k2, k3, k4, f0, f1, f2, f3, f4⟩ := HS4.out.nb.cells
  go_wp2_with fail
  refine (HDE.out _ _ _ _ _ HS4.out.na HS4.out.k).mono ?_
  rintro e W5 ⟨d1, d2, d3, rfl, hq5, hd5⟩
  clear k0 k1 k2 k3 k4 f0 f1 f2 f3 f4
  have hs5 := HS4.out.next hq5
  have hm5 := HM4.out.next hq5
  obtain ⟨da, dc, e1, _, _⟩ := hd5.keys.len
  obtain ⟨ea, ec, e2, _, _⟩ := hd5.vals.len
  obtain ⟨fa, fc, e3, _, _⟩ := hd5.kids.len
  generalize hdn : D.keys.length = dn at *
  generalize D.vals.length = en at *
  generalize D.kids.length = fn at *
  subst e1 e2 e3
  have HDN := hide hdn
  clear hdn
  have hal : Below W5.heap.size W5 (W5.alloc (.cells #[.bool true, .slice da dn dc, .slice ea en ec, .slice fa fn fc, .int .i64 x] 26)) := (Below.refl _ _).alloc (Nat.le_refl _) _
  have HS6 := hide (hs5.next hal)
  have HM6 := hide (hm5.next hal)
  have HD6 := hide (MSt.new (l := true) (x := x) hd5)
  clear hq5 hd5 hs5 hm5 hal HS4 HM4 HDE
  go_upto_region 7 with fail
  generalize W5.alloc (.cells #[.bool true, .slice da dn dc, .slice ea en ec, .slice fa fn fc, .int .i64 x] 26) = W6 at *
  generalize W5.heap.size = bd at *
  have st0 := HS6.out.next (below_drewN _ _ 1)
  refine wp_region_held_drew (S := fun w' => NSt w w' N true x (.slice ak nk ck) (.slice av nv cv) (.slice ai ni ci) (.slice u1 K.length u2) (.slice y1 V.length y2) K V) (by kernel_rfl) st0 (fun _ => ?_)
  refine take_to 0 49 (.int .i64 (pp : Int)) rfl (by kernel_rfl) (by kernel_rfl) (by kernel_rfl) (fun _ _ _ h => h) rfl (by rfl) (fun w hw => by rfl) st0 ?_
  simp only [Act.put, List.setIfInBounds_toArray, List.set_cons_zero, List.set_cons_succ]
  refine take_to 1 50 (.int .i64 (pp : Int)) rfl (by kernel_rfl) (by kernel_rfl) (by kernel_rfl) (fun _ _ _ h => h) rfl (by rfl) (fun w hw => by rfl) st0 ?_
  simp only [Act.put, List.setIfInBounds_toArray, List.set_cons_zero, List.set_cons_succ]
  refine take_to 2 51 (.bool false) rfl (by kernel_rfl) (by kernel_rfl) (by kernel_rfl) (fun _ _ _ h => h) rfl (by rfl) (fun w hw => op_neq3 _ _ (.tmp 49) (.tmp 50) _ rfl _ _ rfl rfl false (by simp)) st0 ?_
  simp only [Act.put, List.setIfInBounds_toArray, List.set_cons_zero, List.set_cons_succ]
  refine take_to 3 52 (.bool false) rfl (by kernel_rfl) (by kernel_rfl) (by kernel_rfl) (fun _ _ _ h => h) rfl (by rfl) (fun w hw => by rfl) st0 ?_
  simp only [Act.put, List.setIfInBounds_toArray, List.set_cons_zero, List.set_cons_succ]
  refine take_to 4 53 (.bool true) rfl (by kernel_rfl) (by kernel_rfl) (by kernel_rfl) (fun _ _ _ h => h) rfl (by rfl) (fun w hw => by rfl) st0 ?_
  simp only [Act.put, List.setIfInBounds_toArray, List.set_cons_zero, List.set_cons_succ]
  refine take_to 5 54 (.bool true) rfl (by kernel_rfl) (by kernel_rfl) (by kernel_rfl) (fun _ _ _ h => h) rfl (by rfl) (fun w hw => by rfl) st0 ?_
  simp only [Act.put, List.setIfInBounds_toArray, List.set_cons_zero, List.set_cons_succ]
  refine take_to 6 55 (.bool false) rfl (by kernel_rfl) (by kernel_rfl) (by kernel_rfl) (fun _ _ _ h => h) rfl (by rfl) (fun w hw => op_neq4 _ _ (.tmp 53) (.tmp 54) _ rfl true rfl rfl) st0 ?_
  simp only [Act.put, List.setIfInBounds_toArray, List.set_cons_zero, List.set_cons_succ]
  refine take_to 7 56 (.bool false) rfl (by kernel_rfl) (by kernel_rfl) (by kernel_rfl) (fun _ _ _ h => h) rfl (by rfl) (fun w hw => by rfl) st0 ?_
  simp only [Act.put, List.setIfInBounds_toArray, List.set_cons_zero, List.set_cons_succ]
  refine take_to 8 57 (.bool false) rfl (by kernel_rfl) (by kernel_rfl) (by kernel_rfl) (fun _ _ _ h => h) rfl (by rfl) (fun w hw => by rfl) st0 ?_
  simp only [Act.put, List.setIfInBounds_toArray, List.set_cons_zero, List.set_cons_succ]
  refine take_to 9 58 (.agg #[.bool true, .slice ak nk ck, .slice av nv cv, .slice ai ni ci, .int .i64 x]) rfl (by kernel_rfl) (by kernel_rfl) (by kernel_rfl) (fun _ _ _ h => h) rfl (by rfl) (fun w hw => op_load _ _ 26 (.tmp 3) rfl (.pointer (some ⟨_, 0, none⟩)) _ rfl (load26 hw.nb)) st0 ?_
  simp only [Act.put, List.setIfInBounds_toArray, List.set_cons_zero, List.set_cons_succ]
  refine take_to 11 60 (.agg #[.bool true, .slice ak nk ck, .slice av nv cv, .slice ai ni ci, .int .i64 x]) rfl (by kernel_rfl) (by kernel_rfl) (by kernel_rfl) (fun _ _ _ h => h) rfl (by rfl) (fun w hw => op_load _ _ 26 (.tmp 3) rfl (.pointer (some ⟨_, 0, none⟩)) _ rfl (load26 hw.nb)) st0 ?_
  simp only [Act.put, List.setIfInBounds_toArray, List.set_cons_zero, List.set_cons_succ]
  refine step_call1_to 10 59 23 rfl (by kernel_rfl) rfl (by rfl) (.tmp 58) _ rfl _ rfl Try.enters23 (HSZ.out _ _ _ _ st0.na) ?_
  rintro e T3 ⟨rfl, hq3⟩
  have st1 := st0.next hq3
  refine ⟨_, rfl, st1, ?_⟩
  simp only [Act.put, List.setIfInBounds_toArray, List.set_cons_zero, List.set_cons_succ]
  refine step_call1_to 12 61 17 rfl (by kernel_rfl) rfl (by rfl) (.tmp 60) _ rfl _ rfl Try.enters17 (HTN.out _ _ _ _ st1.na) ?_
  rintro e T4 ⟨r3, r4, rfl, hq4, hr4⟩
  have st2 := st1.next hq4
  refine ⟨_, rfl, st2, ?_⟩
  simp only [Act.put, List.setIfInBounds_toArray, List.set_cons_zero, List.set_cons_succ]
  refine step_call1_to 13 62 24 rfl (by kernel_rfl) rfl (by rfl) (.tmp 61) _ rfl _ rfl Try.enters24 (HRS.out _ _ _ _ hr4) ?_
  rintro e T5 ⟨rfl, hq5⟩
  have st3 := st2.next hq5
  refine ⟨_, rfl, st3, ?_⟩
  simp only [Act.put, List.setIfInBounds_toArray, List.set_cons_zero, List.set_cons_succ]
  refine take_to 14 63 (.bool false) rfl (by kernel_rfl) (by kernel_rfl) (by kernel_rfl) (fun _ _ _ h => h) rfl (by rfl) (fun w hw => op_neq3 _ _ (.tmp 59) (.tmp 62) _ rfl _ _ rfl rfl false (by simp)) st3 ?_
  simp only [Act.put, List.setIfInBounds_toArray, List.set_cons_zero, List.set_cons_succ]
  refine take_to 15 64 (.bool false) rfl (by kernel_rfl) (by kernel_rfl) (by kernel_rfl) (fun _ _ _ h => h) rfl (by rfl) (fun w hw => by rfl) st3 ?_
  simp only [Act.put, List.setIfInBounds_toArray, List.set_cons_zero, List.set_cons_succ]
  refine wpAnyH_done (by kernel_rfl) ?_ _
  have hbz := ((below_drewN W6.heap.size W6 1).trans ((hq3.mono (Nat.le_refl _)).trans ((hq4.mono hq3.size).trans (hq5.mono (Nat.le_trans hq3.size hq4.size)))))
  have HS7 := hide (HS6.out.next hbz)
  have HM7 := hide (HM6.out.next hbz)
  have HD7 := hide (HD6.out.next hbz)
  clear st0 st1 st2 st3 hq3 hq4 hq5 hr4 hbz HS6 HM6 HD6 HSZ HRS
  obtain ⟨k0, k1, k2, k3, k4, f0, f1, f2, f3, f4⟩ := HS7.out.nb.cells
  go_upto_region 11 with fail
  clear k0 k1 k2 k3 k4 f0 f1 f2 f3 f4
  obtain ⟨j0, j1, j2, j3, j4, g0, g1, g2, g3, g4⟩ := HM7.out.box.cells
  go_wp2_with fail
  refine (HFP.out _ _ _ _ _ HM7.out.at' HS7.out.k).mono ?_
  rintro e W8 ⟨rfl, hq8⟩
  clear j0 j1 j2 j3 j4 g0 g1 g2 g3 g4
  have HS8 := hide (HS7.out.next hq8)
  have HM8 := hide (HM7.out.next hq8)
  have HD8 := hide (HD7.out.next hq8)
  clear hq8 HS7 HM7 HD7 HFP
  go_upto_region 12 with fail
  obtain ⟨gv, ov, va, vc, hqa, hcell, hsl, _, _⟩ := HM8.out.at'.vals.get pp (by rw [HQN.out]; exact HLG.out)
  subst hqa
  rw [HVA.out] at hcell hsl
  have hlg : pp < qn := HLG.out
  have hE : Below W8.heap.size W8 W8.drew := below_drewN _ _ 1
  refine wp_region_held_drew (S := fun w' => (NSt w w' N true x (.slice ak nk ck) (.slice av nv cv) (.slice ai ni ci) (.slice u1 K.length u2) (.slice y1 V.length y2) K V) ∧ MSt w' P true x bm (.slice pa pn pc) (.slice (some ⟨gv, ov, none⟩) qn qc) (.slice ra rn rc) ∧ w'.cell? ⟨gv, ov + pp, none⟩ = some (.slice va V.length vc) ∧ Sl w' (.slice va V.length vc) V) (by kernel_rfl) ⟨HS8.out.next hE, HM8.out.next hE, hcell, hsl.belowW hE⟩ (fun st0 => ?_)
  refine take_to 0 93 (.bool true) rfl (by kernel_rfl) (by kernel_rfl) (by kernel_rfl) (fun _ _ _ h => h) rfl (by rfl) (fun w hw => by rfl) st0 ?_
  simp only [Act.put, List.setIfInBounds_toArray, List.set_cons_zero, List.set_cons_succ]
  refine take_to 1 94 (.bool false) rfl (by kernel_rfl) (by kernel_rfl) (by kernel_rfl) (fun _ _ _ h => h) rfl (by rfl) (fun w hw => by rfl) st0 ?_
  simp only [Act.put, List.setIfInBounds_toArray, List.set_cons_zero, List.set_cons_succ]
  refine take_to 2 95 (.bool false) rfl (by kernel_rfl) (by kernel_rfl) (by kernel_rfl) (fun _ _ _ h => h) rfl (by rfl) (fun w hw => by rfl) st0 ?_
  simp only [Act.put, List.setIfInBounds_toArray, List.set_cons_zero, List.set_cons_succ]
  refine take_to 3 96 (.int .i64 (pp : Int)) rfl (by kernel_rfl) (by kernel_rfl) (by kernel_rfl) (fun _ _ _ h => h) rfl (by rfl) (fun w hw => by rfl) st0 ?_
  simp only [Act.put, List.setIfInBounds_toArray, List.set_cons_zero, List.set_cons_succ]
  refine take_to 4 97 (.int .i64 (pp : Int)) rfl (by kernel_rfl) (by kernel_rfl) (by kernel_rfl) (fun _ _ _ h => h) rfl (by rfl) (fun w hw => by rfl) st0 ?_
  simp only [Act.put, List.setIfInBounds_toArray, List.set_cons_zero, List.set_cons_succ]
  refine take_to 5 98 (.bool false) rfl (by kernel_rfl) (by kernel_rfl) (by kernel_rfl) (fun _ _ _ h => h) rfl (by rfl) (fun w hw => op_neq3 _ _ (.tmp 96) (.tmp 97) _ rfl _ _ rfl rfl false (by simp)) st0 ?_
  simp only [Act.put, List.setIfInBounds_toArray, List.set_cons_zero, List.set_cons_succ]
  refine take_to 6 99 (.bool false) rfl (by kernel_rfl) (by kernel_rfl) (by kernel_rfl) (fun _ _ _ h => h) rfl (by rfl) (fun w hw => by rfl) st0 ?_
  simp only [Act.put, List.setIfInBounds_toArray, List.set_cons_zero, List.set_cons_succ]
  refine take_to 7 100 (.bool false) rfl (by kernel_rfl) (by kernel_rfl) (by kernel_rfl) (fun _ _ _ h => h) rfl (by rfl) (fun w hw => by rfl) st0 ?_
  simp only [Act.put, List.setIfInBounds_toArray, List.set_cons_zero, List.set_cons_succ]
  refine take_to 8 101 (.pointer (some ⟨bm, 2, none⟩)) rfl (by kernel_rfl) (by kernel_rfl) (by kernel_rfl) (fun _ _ _ h => h) rfl (by rfl) (fun w hw => by rfl) st0 ?_
  simp only [Act.put, List.setIfInBounds_toArray, List.set_cons_zero, List.set_cons_succ]
  refine take_to 9 102 (.slice (some ⟨gv, ov, none⟩) qn qc) rfl (by kernel_rfl) (by kernel_rfl) (by kernel_rfl) (fun _ _ _ h => h) rfl (by rfl) (fun w hw => op_load _ _ 22 (.tmp 101) rfl (.pointer (some ⟨_, 2, none⟩)) _ rfl (run_loadAny w _ 2 22 _ Try.isAgg22 hw.2.1.box.cells.k2)) st0 ?_
  simp only [Act.put, List.setIfInBounds_toArray, List.set_cons_zero, List.set_cons_succ]
  refine take_to 10 103 (.int .i64 (qn : Int)) rfl (by kernel_rfl) (by kernel_rfl) (by kernel_rfl) (fun _ _ _ h => h) rfl (by rfl) (fun w hw => op_len _ _ (.tmp 102) 22 28 Try.underlying22 rfl _ qn qc rfl) st0 ?_
  simp only [Act.put, List.setIfInBounds_toArray, List.set_cons_zero, List.set_cons_succ]
  refine take_to 11 104 (.int .i64 (pp : Int)) rfl (by kernel_rfl) (by kernel_rfl) (by kernel_rfl) (fun _ _ _ h => h) rfl (by rfl) (fun w hw => by rfl) st0 ?_
  simp only [Act.put, List.setIfInBounds_toArray, List.set_cons_zero, List.set_cons_succ]
  refine take_to 12 105 (.bool false) rfl (by kernel_rfl) (by kernel_rfl) (by kernel_rfl) (fun _ _ _ h => h) rfl (by rfl) (fun w hw => op_leq3 _ _ (.tmp 103) (.tmp 104) _ rfl _ _ rfl rfl false (by simp; omega)) st0 ?_
  simp only [Act.put, List.setIfInBounds_toArray, List.set_cons_zero, List.set_cons_succ]
  refine take_to 13 106 (.bool false) rfl (by kernel_rfl) (by kernel_rfl) (by kernel_rfl) (fun _ _ _ h => h) rfl (by rfl) (fun w hw => by rfl) st0 ?_
  simp only [Act.put, List.setIfInBounds_toArray, List.set_cons_zero, List.set_cons_succ]
  refine take_to 14 107 (.bool false) rfl (by kernel_rfl) (by kernel_rfl) (by kernel_rfl) (fun _ _ _ h => h) rfl (by rfl) (fun w hw => by rfl) st0 ?_
  simp only [Act.put, List.setIfInBounds_toArray, List.set_cons_zero, List.set_cons_succ]
  refine take_to 15 108 (.pointer (some ⟨bm, 2, none⟩)) rfl (by kernel_rfl) (by kernel_rfl) (by kernel_rfl) (fun _ _ _ h => h) rfl (by rfl) (fun w hw => by rfl) st0 ?_
  simp only [Act.put, List.setIfInBounds_toArray, List.set_cons_zero, List.set_cons_succ]
  refine take_to 16 109 (.slice (some ⟨gv, ov, none⟩) qn qc) rfl (by kernel_rfl) (by kernel_rfl) (by kernel_rfl) (fun _ _ _ h => h) rfl (by rfl) (fun w hw => op_load _ _ 22 (.tmp 108) rfl (.pointer (some ⟨_, 2, none⟩)) _ rfl (run_loadAny w _ 2 22 _ Try.isAgg22 hw.2.1.box.cells.k2)) st0 ?_
  simp only [Act.put, List.setIfInBounds_toArray, List.set_cons_zero, List.set_cons_succ]
  refine take_to 17 110 (.int .i64 (pp : Int)) rfl (by kernel_rfl) (by kernel_rfl) (by kernel_rfl) (fun _ _ _ h => h) rfl (by rfl) (fun w hw => by rfl) st0 ?_
  simp only [Act.put, List.setIfInBounds_toArray, List.set_cons_zero, List.set_cons_succ]
  refine take_to 18 111 (.pointer (some ⟨gv, ov + pp, none⟩)) rfl (by kernel_rfl) (by kernel_rfl) (by kernel_rfl) (fun _ _ _ h => h) rfl (by rfl) (fun w hw => op_index _ _ 22 (.tmp 109) (.tmp 110) rfl _ _ _ rfl rfl (run_index22 w gv ov qn qc pp hlg)) st0 ?_
  simp only [Act.put, List.setIfInBounds_toArray, List.set_cons_zero, List.set_cons_succ]
  refine take_to 19 112 (.slice va V.length vc) rfl (by kernel_rfl) (by kernel_rfl) (by kernel_rfl) (fun _ _ _ h => h) rfl (by rfl) (fun w hw => op_load _ _ 28 (.tmp 111) rfl (.pointer (some ⟨_, _, none⟩)) _ rfl (run_loadAny w _ _ 28 _ Try.isAgg28 hw.2.2.1)) st0 ?_
  simp only [Act.put, List.setIfInBounds_toArray, List.set_cons_zero, List.set_cons_succ]
  refine take_to 20 113 (.string (strOf V)) rfl (by kernel_rfl) (by kernel_rfl) (by kernel_rfl) (fun _ _ _ h => h) rfl (by rfl) (fun w hw => op_conv _ _ 28 9 (.tmp 112) rfl _ _ rfl (run_str hw.2.2.2)) st0 ?_
  simp only [Act.put, List.setIfInBounds_toArray, List.set_cons_zero, List.set_cons_succ]
  refine take_to 21 114 (.slice y1 V.length y2) rfl (by kernel_rfl) (by kernel_rfl) (by kernel_rfl) (fun _ _ _ h => h) rfl (by rfl) (fun w hw => by rfl) st0 ?_
  simp only [Act.put, List.setIfInBounds_toArray, List.set_cons_zero, List.set_cons_succ]
  refine take_to 22 115 (.string (strOf V)) rfl (by kernel_rfl) (by kernel_rfl) (by kernel_rfl) (fun _ _ _ h => h) rfl (by rfl) (fun w hw => op_conv _ _ 28 9 (.tmp 114) rfl _ _ rfl (run_str hw.1.y)) st0 ?_
  simp only [Act.put, List.setIfInBounds_toArray, List.set_cons_zero, List.set_cons_succ]
  refine take_to 23 116 (.bool false) rfl (by kernel_rfl) (by kernel_rfl) (by kernel_rfl) (fun _ _ _ h => h) rfl (by rfl) (fun w hw => op_neq9 _ _ (.tmp 113) (.tmp 115) _ rfl (strOf V) rfl rfl) st0 ?_
  simp only [Act.put, List.setIfInBounds_toArray, List.set_cons_zero, List.set_cons_succ]
  refine take_to 24 117 (.bool false) rfl (by kernel_rfl) (by kernel_rfl) (by kernel_rfl) (fun _ _ _ h => h) rfl (by rfl) (fun w hw => by rfl) st0 ?_
  simp only [Act.put, List.setIfInBounds_toArray, List.set_cons_zero, List.set_cons_succ]
  refine take_to 25 118 (.bool false) rfl (by kernel_rfl) (by kernel_rfl) (by kernel_rfl) (fun _ _ _ h => h) rfl (by rfl) (fun w hw => by rfl) st0 ?_
  simp only [Act.put, List.setIfInBounds_toArray, List.set_cons_zero, List.set_cons_succ]
  refine take_to 26 119 (.bool true) rfl (by kernel_rfl) (by kernel_rfl) (by kernel_rfl) (fun _ _ _ h => h) rfl (by rfl) (fun w hw => by rfl) st0 ?_
  simp only [Act.put, List.setIfInBounds_toArray, List.set_cons_zero, List.set_cons_succ]
  refine take_to 27 120 (.bool true) rfl (by kernel_rfl) (by kernel_rfl) (by kernel_rfl) (fun _ _ _ h => h) rfl (by rfl) (fun w hw => by rfl) st0 ?_
  simp only [Act.put, List.setIfInBounds_toArray, List.set_cons_zero, List.set_cons_succ]
  refine take_to 28 121 (.bool false) rfl (by kernel_rfl) (by kernel_rfl) (by kernel_rfl) (fun _ _ _ h => h) rfl (by rfl) (fun w hw => op_neq4 _ _ (.tmp 119) (.tmp 120) _ rfl true rfl rfl) st0 ?_
  simp only [Act.put, List.setIfInBounds_toArray, List.set_cons_zero, List.set_cons_succ]
  refine take_to 29 122 (.bool false) rfl (by kernel_rfl) (by kernel_rfl) (by kernel_rfl) (fun _ _ _ h => h) rfl (by rfl) (fun w hw => by rfl) st0 ?_
  simp only [Act.put, List.setIfInBounds_toArray, List.set_cons_zero, List.set_cons_succ]
  refine take_to 30 123 (.bool false) rfl (by kernel_rfl) (by kernel_rfl) (by kernel_rfl) (fun _ _ _ h => h) rfl (by rfl) (fun w hw => by rfl) st0 ?_
  simp only [Act.put, List.setIfInBounds_toArray, List.set_cons_zero, List.set_cons_succ]
  refine take_to 31 124 (.pointer (some ⟨bm, 4, none⟩)) rfl (by kernel_rfl) (by kernel_rfl) (by kernel_rfl) (fun _ _ _ h => h) rfl (by rfl) (fun w hw => by rfl) st0 ?_
  simp only [Act.put, List.setIfInBounds_toArray, List.set_cons_zero, List.set_cons_succ]
  refine take_to 32 125 (.int .i64 x) rfl (by kernel_rfl) (by kernel_rfl) (by kernel_rfl) (fun _ _ _ h => h) rfl (by rfl) (fun w hw => op_load _ _ 3 (.tmp 124) rfl (.pointer (some ⟨_, 4, none⟩)) _ rfl (run_loadAny w _ 4 3 _ Try.isAgg3 hw.2.1.box.cells.k4)) st0 ?_
  simp only [Act.put, List.setIfInBounds_toArray, List.set_cons_zero, List.set_cons_succ]
  refine take_to 33 126 (.pointer (some ⟨w.heap.size, 4, none⟩)) rfl (by kernel_rfl) (by kernel_rfl) (by kernel_rfl) (fun _ _ _ h => h) rfl (by rfl) (fun w hw => by rfl) st0 ?_
  simp only [Act.put, List.setIfInBounds_toArray, List.set_cons_zero, List.set_cons_succ]
  refine take_to 34 127 (.int .i64 x) rfl (by kernel_rfl) (by kernel_rfl) (by kernel_rfl) (fun _ _ _ h => h) rfl (by rfl) (fun w hw => op_load _ _ 3 (.tmp 126) rfl (.pointer (some ⟨_, 4, none⟩)) _ rfl (run_loadAny w _ 4 3 _ Try.isAgg3 hw.1.nb.cells.k4)) st0 ?_
  simp only [Act.put, List.setIfInBounds_toArray, List.set_cons_zero, List.set_cons_succ]
  refine take_to 35 128 (.bool false) rfl (by kernel_rfl) (by kernel_rfl) (by kernel_rfl) (fun _ _ _ h => h) rfl (by rfl) (fun w hw => op_neq3 _ _ (.tmp 125) (.tmp 127) _ rfl _ _ rfl rfl false (by simp)) st0 ?_
  simp only [Act.put, List.setIfInBounds_toArray, List.set_cons_zero, List.set_cons_succ]
  refine take_to 36 129 (.bool false) rfl (by kernel_rfl) (by kernel_rfl) (by kernel_rfl) (fun _ _ _ h => h) rfl (by rfl) (fun w hw => by rfl) st0 ?_
  simp only [Act.put, List.setIfInBounds_toArray, List.set_cons_zero, List.set_cons_succ]
  refine wpAnyH_done (by kernel_rfl) ?_ _
  have HS9 := hide (HS8.out.next hE)
  have HM9 := hide (HM8.out.next hE)
  have HD9 := hide (HD8.out.next hE)
  clear st0 hE HS8 HM8 HD8 hcell hsl HVA HLG
  generalize W8.drew = W9 at *
  obtain ⟨k0, k1, k2, k3, k4, f0, f1, f2, f3, f4⟩ := HS9.out.nb.cells
  go_upto_region 17 with fail
  clear k0 k1 k2 k3 k4 f0 f1 f2 f3 f4
  obtain ⟨j0, j1, j2, j3, j4, g0, g1, g2, g3, g4⟩ := HD9.out.box.cells
  go_wp2_with fail
  refine (HFD.out _ _ _ _ _ HD9.out.at' HS9.out.k).mono ?_
  rintro e W10 ⟨rfl, hq10⟩
  clear j0 j1 j2 j3 j4 g0 g1 g2 g3 g4
  have HS10 := hide (HS9.out.next hq10)
  have HM10 := hide (HM9.out.next hq10)
  have HD10 := hide (HD9.out.next hq10)
  clear hq10 HS9 HM9 HD9 HFD
  go_upto_region 18 with fail
  have hE : Below W10.heap.size W10 W10.drew := below_drewN _ _ 1
  have hS18 : Hid (∀ W, Below W10.heap.size W10 W → (NSt w W N true x (.slice ak nk ck) (.slice av nv cv) (.slice ai ni ci) (.slice u1 K.length u2) (.slice y1 V.length y2) K V) ∧ MSt W P true x bm (.slice pa pn pc) (.slice (some ⟨gv, ov, none⟩) qn qc) (.slice ra rn rc) ∧ MSt W D true x bd (.slice da dn dc) (.slice ea en ec) (.slice fa fn fc)) := fun W hW => ⟨HS10.out.next hW, HM10.out.next hW, HD10.out.next hW⟩
  have hpw := HPK.out
  have hdw := HDL.out
  refine wp_region_held_drew (S := fun w' => (NSt w w' N true x (.slice ak nk ck) (.slice av nv cv) (.slice ai ni ci) (.slice u1 K.length u2) (.slice y1 V.length y2) K V) ∧ MSt w' P true x bm (.slice pa pn pc) (.slice (some ⟨gv, ov, none⟩) qn qc) (.slice ra rn rc) ∧ MSt w' D true x bd (.slice da dn dc) (.slice ea en ec) (.slice fa fn fc)) (by kernel_rfl) (hS18.out _ hE) (fun st0 => ?_)
  refine take_to 0 143 (.pointer (some ⟨bm, 1, none⟩)) rfl (by kernel_rfl) (by kernel_rfl) (by kernel_rfl) (fun _ _ _ h => h) rfl (by rfl) (fun w hw => by rfl) st0 ?_
  simp only [Act.put, List.setIfInBounds_toArray, List.set_cons_zero, List.set_cons_succ]
  refine take_to 1 144 (.slice pa pn pc) rfl (by kernel_rfl) (by kernel_rfl) (by kernel_rfl) (fun _ _ _ h => h) rfl (by rfl) (fun w hw => op_load _ _ 22 (.tmp 143) rfl (.pointer (some ⟨_, 1, none⟩)) _ rfl (run_loadAny w _ 1 22 _ Try.isAgg22 hw.2.1.box.cells.k1)) st0 ?_
  simp only [Act.put, List.setIfInBounds_toArray, List.set_cons_zero, List.set_cons_succ]
  refine take_to 2 145 (.int .i64 (pn : Int)) rfl (by kernel_rfl) (by kernel_rfl) (by kernel_rfl) (fun _ _ _ h => h) rfl (by rfl) (fun w hw => op_len _ _ (.tmp 144) 22 28 Try.underlying22 rfl _ pn pc rfl) st0 ?_
  simp only [Act.put, List.setIfInBounds_toArray, List.set_cons_zero, List.set_cons_succ]
  refine take_to 3 146 (.int .i64 ((nk : Int))) rfl (by kernel_rfl) (by kernel_rfl) (by kernel_rfl) (fun _ _ _ h => h) rfl (by rfl) (fun w hw => by rfl) st0 ?_
  simp only [Act.put, List.setIfInBounds_toArray, List.set_cons_zero, List.set_cons_succ]
  refine take_to 4 147 (.bool false) rfl (by kernel_rfl) (by kernel_rfl) (by kernel_rfl) (fun _ _ _ h => h) rfl (by rfl) (fun w hw => op_neq3 _ _ (.tmp 145) (.tmp 146) _ rfl _ _ rfl rfl false (by simp; omega)) st0 ?_
  simp only [Act.put, List.setIfInBounds_toArray, List.set_cons_zero, List.set_cons_succ]
  refine take_to 5 148 (.bool false) rfl (by kernel_rfl) (by kernel_rfl) (by kernel_rfl) (fun _ _ _ h => h) rfl (by rfl) (fun w hw => by rfl) st0 ?_
  simp only [Act.put, List.setIfInBounds_toArray, List.set_cons_zero, List.set_cons_succ]
  refine take_to 6 149 (.bool false) rfl (by kernel_rfl) (by kernel_rfl) (by kernel_rfl) (fun _ _ _ h => h) rfl (by rfl) (fun w hw => by rfl) st0 ?_
  simp only [Act.put, List.setIfInBounds_toArray, List.set_cons_zero, List.set_cons_succ]
  refine take_to 7 150 (.bool false) rfl (by kernel_rfl) (by kernel_rfl) (by kernel_rfl) (fun _ _ _ h => h) rfl (by rfl) (fun w hw => by rfl) st0 ?_
  simp only [Act.put, List.setIfInBounds_toArray, List.set_cons_zero, List.set_cons_succ]
  refine take_to 8 151 (.bool false) rfl (by kernel_rfl) (by kernel_rfl) (by kernel_rfl) (fun _ _ _ h => h) rfl (by rfl) (fun w hw => by rfl) st0 ?_
  simp only [Act.put, List.setIfInBounds_toArray, List.set_cons_zero, List.set_cons_succ]
  refine take_to 9 152 (.bool true) rfl (by kernel_rfl) (by kernel_rfl) (by kernel_rfl) (fun _ _ _ h => h) rfl (by rfl) (fun w hw => by rfl) st0 ?_
  simp only [Act.put, List.setIfInBounds_toArray, List.set_cons_zero, List.set_cons_succ]
  refine take_to 10 153 (.bool true) rfl (by kernel_rfl) (by kernel_rfl) (by kernel_rfl) (fun _ _ _ h => h) rfl (by rfl) (fun w hw => by rfl) st0 ?_
  simp only [Act.put, List.setIfInBounds_toArray, List.set_cons_zero, List.set_cons_succ]
  refine take_to 11 154 (.pointer (some ⟨bd, 1, none⟩)) rfl (by kernel_rfl) (by kernel_rfl) (by kernel_rfl) (fun _ _ _ h => h) rfl (by rfl) (fun w hw => by rfl) st0 ?_
  simp only [Act.put, List.setIfInBounds_toArray, List.set_cons_zero, List.set_cons_succ]
  refine take_to 12 155 (.slice da dn dc) rfl (by kernel_rfl) (by kernel_rfl) (by kernel_rfl) (fun _ _ _ h => h) rfl (by rfl) (fun w hw => op_load _ _ 22 (.tmp 154) rfl (.pointer (some ⟨_, 1, none⟩)) _ rfl (run_loadAny w _ 1 22 _ Try.isAgg22 hw.2.2.box.cells.k1)) st0 ?_
  simp only [Act.put, List.setIfInBounds_toArray, List.set_cons_zero, List.set_cons_succ]
  refine take_to 13 156 (.int .i64 (dn : Int)) rfl (by kernel_rfl) (by kernel_rfl) (by kernel_rfl) (fun _ _ _ h => h) rfl (by rfl) (fun w hw => op_len _ _ (.tmp 155) 22 28 Try.underlying22 rfl _ dn dc rfl) st0 ?_
  simp only [Act.put, List.setIfInBounds_toArray, List.set_cons_zero, List.set_cons_succ]
  refine take_to 14 157 (.pointer (some ⟨w.heap.size, 1, none⟩)) rfl (by kernel_rfl) (by kernel_rfl) (by kernel_rfl) (fun _ _ _ h => h) rfl (by rfl) (fun w hw => by rfl) st0 ?_
  simp only [Act.put, List.setIfInBounds_toArray, List.set_cons_zero, List.set_cons_succ]
  refine take_to 15 158 (.slice ak nk ck) rfl (by kernel_rfl) (by kernel_rfl) (by kernel_rfl) (fun _ _ _ h => h) rfl (by rfl) (fun w hw => op_load _ _ 22 (.tmp 157) rfl (.pointer (some ⟨_, 1, none⟩)) _ rfl (run_loadAny w _ 1 22 _ Try.isAgg22 hw.1.nb.cells.k1)) st0 ?_
  simp only [Act.put, List.setIfInBounds_toArray, List.set_cons_zero, List.set_cons_succ]
  refine take_to 16 159 (.int .i64 (nk : Int)) rfl (by kernel_rfl) (by kernel_rfl) (by kernel_rfl) (fun _ _ _ h => h) rfl (by rfl) (fun w hw => op_len _ _ (.tmp 158) 22 28 Try.underlying22 rfl _ nk ck rfl) st0 ?_
  simp only [Act.put, List.setIfInBounds_toArray, List.set_cons_zero, List.set_cons_succ]
  refine take_to 17 160 (.int .i64 ((nk : Int) - 1)) rfl (by kernel_rfl) (by kernel_rfl) (by kernel_rfl) (fun _ _ _ h => h) rfl (by rfl) (fun w hw => op_sub3 _ _ (.tmp 159) (.const (.int .i64 1)) _ rfl _ _ rfl rfl _ (by rw [IntKind.wrap_i64]; omega)) st0 ?_
  simp only [Act.put, List.setIfInBounds_toArray, List.set_cons_zero, List.set_cons_succ]
  refine take_to 18 161 (.bool false) rfl (by kernel_rfl) (by kernel_rfl) (by kernel_rfl) (fun _ _ _ h => h) rfl (by rfl) (fun w hw => op_neq3 _ _ (.tmp 156) (.tmp 160) _ rfl _ _ rfl rfl false (by have := HK0.out; simp; omega)) st0 ?_
  simp only [Act.put, List.setIfInBounds_toArray, List.set_cons_zero, List.set_cons_succ]
  refine take_to 19 162 (.bool false) rfl (by kernel_rfl) (by kernel_rfl) (by kernel_rfl) (fun _ _ _ h => h) rfl (by rfl) (fun w hw => by rfl) st0 ?_
  simp only [Act.put, List.setIfInBounds_toArray, List.set_cons_zero, List.set_cons_succ]
  refine take_to 20 163 (.bool false) rfl (by kernel_rfl) (by kernel_rfl) (by kernel_rfl) (fun _ _ _ h => h) rfl (by rfl) (fun w hw => by rfl) st0 ?_
  simp only [Act.put, List.setIfInBounds_toArray, List.set_cons_zero, List.set_cons_succ]
  refine take_to 21 164 (.bool false) rfl (by kernel_rfl) (by kernel_rfl) (by kernel_rfl) (fun _ _ _ h => h) rfl (by rfl) (fun w hw => by rfl) st0 ?_
  simp only [Act.put, List.setIfInBounds_toArray, List.set_cons_zero, List.set_cons_succ]
  refine take_to 22 165 (.bool true) rfl (by kernel_rfl) (by kernel_rfl) (by kernel_rfl) (fun _ _ _ h => h) rfl (by rfl) (fun w hw => by rfl) st0 ?_
  simp only [Act.put, List.setIfInBounds_toArray, List.set_cons_zero, List.set_cons_succ]
  refine take_to 23 166 (.bool false) rfl (by kernel_rfl) (by kernel_rfl) (by kernel_rfl) (fun _ _ _ h => h) rfl (by rfl) (fun w hw => by rfl) st0 ?_
  simp only [Act.put, List.setIfInBounds_toArray, List.set_cons_zero, List.set_cons_succ]
  refine take_to 24 167 (.bool false) rfl (by kernel_rfl) (by kernel_rfl) (by kernel_rfl) (fun _ _ _ h => h) rfl (by rfl) (fun w hw => by rfl) st0 ?_
  simp only [Act.put, List.setIfInBounds_toArray, List.set_cons_zero, List.set_cons_succ]
  refine skip_to 25 168 rfl (by kernel_rfl) (by kernel_rfl) (by kernel_rfl) (fun _ _ _ h => h) rfl (by rfl) st0 ?_
  simp only [Act.put, List.setIfInBounds_toArray, List.set_cons_zero, List.set_cons_succ]
  refine skip_to 26 169 rfl (by kernel_rfl) (by kernel_rfl) (by kernel_rfl) (fun _ _ _ h => h) rfl (by rfl) st0 ?_
  simp only [Act.put, List.setIfInBounds_toArray, List.set_cons_zero, List.set_cons_succ]
  refine skip_to 27 170 rfl (by kernel_rfl) (by kernel_rfl) (by kernel_rfl) (fun _ _ _ h => h) rfl (by rfl) st0 ?_
  simp only [Act.put, List.setIfInBounds_toArray, List.set_cons_zero, List.set_cons_succ]
  refine skip_to 28 171 rfl (by kernel_rfl) (by kernel_rfl) (by kernel_rfl) (fun _ _ _ h => h) rfl (by rfl) st0 ?_
  simp only [Act.put, List.setIfInBounds_toArray, List.set_cons_zero, List.set_cons_succ]
  refine skip_to 29 172 rfl (by kernel_rfl) (by kernel_rfl) (by kernel_rfl) (fun _ _ _ h => h) rfl (by rfl) st0 ?_
  simp only [Act.put, List.setIfInBounds_toArray, List.set_cons_zero, List.set_cons_succ]
  refine skip_to 30 173 rfl (by kernel_rfl) (by kernel_rfl) (by kernel_rfl) (fun _ _ _ h => h) rfl (by rfl) st0 ?_
  simp only [Act.put, List.setIfInBounds_toArray, List.set_cons_zero, List.set_cons_succ]
  refine take_to 31 174 (.bool false) rfl (by kernel_rfl) (by kernel_rfl) (by kernel_rfl) (fun _ _ _ h => h) rfl (by rfl) (fun w hw => by rfl) st0 ?_
  simp only [Act.put, List.setIfInBounds_toArray, List.set_cons_zero, List.set_cons_succ]
  refine take_to 32 175 (.bool false) rfl (by kernel_rfl) (by kernel_rfl) (by kernel_rfl) (fun _ _ _ h => h) rfl (by rfl) (fun w hw => by rfl) st0 ?_
  simp only [Act.put, List.setIfInBounds_toArray, List.set_cons_zero, List.set_cons_succ]
  refine wpAnyH_done (by kernel_rfl) ?_ _
  have HS11 := hide (HS10.out.next hE)
  have HM11 := hide (HM10.out.next hE)
  clear st0 hE hpw hdw
  clear HS10 HM10 HD10 hS18
  generalize W10.drew = W11 at *
  go_upto_region 20 with fail
  obtain ⟨j0, j1, j2, j3, j4, g0, g1, g2, g3, g4⟩ := HM11.out.box.cells
  go_wp2_with fail
  refine (HDP.out _ _ _ _ _ HM11.out.at' HS11.out.k).mono ?_
  rintro e W12 ⟨b1, b2, b3, rfl, hq12, hb12⟩
  clear j0 j1 j2 j3 j4 g0 g1 g2 g3 g4
  have hs12 := HS11.out.next hq12
  obtain ⟨ba, bc, e1, _, _⟩ := hb12.keys.len
  obtain ⟨ga, gc, e2, _, _⟩ := hb12.vals.len
  obtain ⟨ha, hc, e3, _, _⟩ := hb12.kids.len
  generalize Bk.keys.length = bn at *
  generalize Bk.vals.length = gn at *
  generalize Bk.kids.length = hn at *
  subst e1 e2 e3
  have hal : Below W12.heap.size W12 (W12.alloc (.cells #[.bool true, .slice ba bn bc, .slice ga gn gc, .slice ha hn hc, .int .i64 x] 26)) := (Below.refl _ _).alloc (Nat.le_refl _) _
  have HS13 := hide (hs12.next hal)
  have HB13 := hide (MSt.new (l := true) (x := x) hb12)
  clear hq12 hb12 hs12 hal HS11 HM11 HDP
  go_upto_region 21 with fail
  generalize W12.alloc (.cells #[.bool true, .slice ba bn bc, .slice ga gn gc, .slice ha hn hc, .int .i64 x] 26) = W13 at *
  generalize W12.heap.size = bb at *
  have hE : Below W13.heap.size W13 W13.drew := below_drewN _ _ 1
  have hS21 : Hid (∀ W, Below W13.heap.size W13 W → (NSt w W N true x (.slice ak nk ck) (.slice av nv cv) (.slice ai ni ci) (.slice u1 K.length u2) (.slice y1 V.length y2) K V) ∧ MSt W Bk true x bb (.slice ba bn bc) (.slice ga gn gc) (.slice ha hn hc)) := fun W hW => ⟨HS13.out.next hW, HB13.out.next hW⟩
  refine wp_region_held_drew (S := fun w' => (NSt w w' N true x (.slice ak nk ck) (.slice av nv cv) (.slice ai ni ci) (.slice u1 K.length u2) (.slice y1 V.length y2) K V) ∧ MSt w' Bk true x bb (.slice ba bn bc) (.slice ga gn gc) (.slice ha hn hc)) (by kernel_rfl) (hS21.out _ hE) (fun st0 => ?_)
  refine take_to 0 182 (.bool true) rfl (by kernel_rfl) (by kernel_rfl) (by kernel_rfl) (fun _ _ _ h => h) rfl (by rfl) (fun w hw => by rfl) st0 ?_
  simp only [Act.put, List.setIfInBounds_toArray, List.set_cons_zero, List.set_cons_succ]
  refine take_to 1 183 (.bool true) rfl (by kernel_rfl) (by kernel_rfl) (by kernel_rfl) (fun _ _ _ h => h) rfl (by rfl) (fun w hw => by rfl) st0 ?_
  simp only [Act.put, List.setIfInBounds_toArray, List.set_cons_zero, List.set_cons_succ]
  refine skip_to 2 184 rfl (by kernel_rfl) (by kernel_rfl) (by kernel_rfl) (fun _ _ _ h => h) rfl (by rfl) st0 ?_
  simp only [Act.put, List.setIfInBounds_toArray, List.set_cons_zero, List.set_cons_succ]
  refine skip_to 3 185 rfl (by kernel_rfl) (by kernel_rfl) (by kernel_rfl) (fun _ _ _ h => h) rfl (by rfl) st0 ?_
  simp only [Act.put, List.setIfInBounds_toArray, List.set_cons_zero, List.set_cons_succ]
  refine skip_to 4 186 rfl (by kernel_rfl) (by kernel_rfl) (by kernel_rfl) (fun _ _ _ h => h) rfl (by rfl) st0 ?_
  simp only [Act.put, List.setIfInBounds_toArray, List.set_cons_zero, List.set_cons_succ]
  refine skip_to 5 187 rfl (by kernel_rfl) (by kernel_rfl) (by kernel_rfl) (fun _ _ _ h => h) rfl (by rfl) st0 ?_
  simp only [Act.put, List.setIfInBounds_toArray, List.set_cons_zero, List.set_cons_succ]
  refine skip_to 6 188 rfl (by kernel_rfl) (by kernel_rfl) (by kernel_rfl) (fun _ _ _ h => h) rfl (by rfl) st0 ?_
  simp only [Act.put, List.setIfInBounds_toArray, List.set_cons_zero, List.set_cons_succ]
  refine take_to 7 189 (.bool true) rfl (by kernel_rfl) (by kernel_rfl) (by kernel_rfl) (fun _ _ _ h => h) rfl (by rfl) (fun w hw => by rfl) st0 ?_
  simp only [Act.put, List.setIfInBounds_toArray, List.set_cons_zero, List.set_cons_succ]
  refine take_to 8 190 (.bool true) rfl (by kernel_rfl) (by kernel_rfl) (by kernel_rfl) (fun _ _ _ h => h) rfl (by rfl) (fun w hw => by rfl) st0 ?_
  simp only [Act.put, List.setIfInBounds_toArray, List.set_cons_zero, List.set_cons_succ]
  refine step_call0_to 9 191 11 rfl (by kernel_rfl) rfl (by rfl) _ rfl Try.enters11 (HAW.out _) ?_
  rintro e T12 ⟨rfl, hq7⟩
  have hE9 := hE.trans (hq7.mono (Nat.le_refl _))
  have st9 := hS21.out _ hE9
  refine ⟨_, rfl, st9, ?_⟩
  simp only [Act.put, List.setIfInBounds_toArray, List.set_cons_zero, List.set_cons_succ]
  refine take_to 10 192 (.bool true) rfl (by kernel_rfl) (by kernel_rfl) (by kernel_rfl) (fun _ _ _ h => h) rfl (by rfl) (fun w hw => by rfl) st9 ?_
  simp only [Act.put, List.setIfInBounds_toArray, List.set_cons_zero, List.set_cons_succ]
  refine take_to 11 6 (.bool true) rfl (by kernel_rfl) (by kernel_rfl) (by kernel_rfl) (fun _ _ _ h => h) rfl (by rfl) (fun w hw => by rfl) st9 ?_
  simp only [Act.put, List.setIfInBounds_toArray, List.set_cons_zero, List.set_cons_succ]
  refine wpAnyH_done (by kernel_rfl) ?_ _
  have HBE := hide st9.1.below
  clear st0 st9 hE hE9 hq7
  go_wp2
  go_ret
  exact ⟨rfl, HBE.out⟩
set_option maxHeartbeats 4000000 in
set_option maxRecDepth 100000 in
theorem finds_new {w : World} {N : Nd} {vk vv vi kv yv : Value} {K V : List UInt8} (h : NdAt w N vk vv vi) (hf : Fits N) (hk : Sl w kv K) (hy : Sl w yv V) (hkl : K.length ≤ 140737488355328) (hyl : V.length ≤ 140737488355328)
    (hrk : (N.keys.length + 1) * 24 ≤ 140737488355328) (hrv : (N.vals.length + 1) * 24 ≤ 140737488355328) (hs : N.sound = true) (hlf : N.leaf = true) (hhk : hasK N.keys K = false) :
    Calls Try.prog 6 #[.agg #[.bool N.leaf, vk, vv, vi, .int .i64 N.next], kv, yv] w fun e w' => e = .returned (.bool true) ∧ Below w.heap.size w w' := by
  have HSD := sd_of hs
  have hz := sd_size HSD hf
  have hm := sound_matched hs
  obtain ⟨ak, ck, rfl, _, _⟩ := h.keys.len
  obtain ⟨av, cv, rfl, _, _⟩ := h.vals.len
  obtain ⟨ai, ci, rfl, _, _⟩ := h.kids.len
  obtain ⟨u1, u2, rfl, _, _⟩ := hk.len
  obtain ⟨y1, y2, rfl, _, _⟩ := hy.len
  have hPI := put_is (K := K) (V := V) hlf hm
  have hPF := put_fits (K := K) (V := V) hf hkl hyl hrk hrv
  have hDH : delH N K = false := by rw [delH_leaf hlf hm]; exact hhk
  have hDN := delN_not hDH
  have hPK : (putN N K V).keys.length = N.keys.length + 1 := by rw [hPI.len, hhk]; rfl
  have hPH : delH (putN N K V) K = true := by rw [delH_leaf hPI.leaf hPI.matched]; exact hPI.has
  have hBK := hPI.back hhk
  have HFIT : Hid (∀ W, NdAt W N (.slice ak N.keys.length ck) (.slice av N.vals.length cv) (.slice ai N.kids.length ci) → Calls Try.prog 12 #[.agg #[.bool true, .slice ak N.keys.length ck, .slice av N.vals.length cv, .slice ai N.kids.length ci, .int .i64 N.next]] W fun e w' => e = .returned (.bool true) ∧ Below W.heap.size W w') := fun W hW => by
    have := lfit_any hW hf
    rw [hs, hlf] at this
    exact this
  have HFN : Hid (∀ W a b c kv, NdAt W N a b c → Sl W kv K → Calls Try.prog 21 #[.agg #[.bool true, a, b, c, .int .i64 N.next], kv] W fun e w' => e = .returned (.tuple #[.int .i64 (plc N.keys K : Int), .bool false]) ∧ Below W.heap.size W w') := fun W a b c kv h1 h2 => findF hf hlf rfl rfl hhk h1 h2
  have HTN : Hid (∀ W a b c, NdAt W N a b c → Calls Try.prog 17 #[.agg #[.bool true, a, b, c, .int .i64 N.next]] W fun e w' => ∃ uk uv, e = .returned (.agg #[.bool true, uk, uv, c, .int .i64 N.next]) ∧ Below W.heap.size W w' ∧ RdAt w' N uk uv c) := fun W a b c h1 => toF hf hlf rfl h1
  have HRF : Hid (∀ W a b c, RdAt W N a b c → Calls Try.prog 22 #[.agg #[.bool true, a, b, c, .int .i64 N.next], .string (strOf K)] W fun e w' => e = .returned (.tuple #[.int .i64 (plc N.keys K : Int), .bool false]) ∧ Below W.heap.size W w') := fun W a b c h1 => rfindF hf hlf rfl rfl hhk h1
  have HSZ : Hid (∀ W a b c, NdAt W N a b c → Calls Try.prog 23 #[.agg #[.bool true, a, b, c, .int .i64 N.next]] W fun e w' => e = .returned (.int .i64 (N.size : Int)) ∧ Below W.heap.size W w') := fun W a b c h1 => sizeF hf hz hlf rfl rfl h1
  have HRS : Hid (∀ W a b c, RdAt W N a b c → Calls Try.prog 24 #[.agg #[.bool true, a, b, c, .int .i64 N.next]] W fun e w' => e = .returned (.int .i64 (N.size : Int)) ∧ Below W.heap.size W w') := fun W a b c h1 => rsizeF hf hz hlf rfl rfl h1
  have HSM : Hid (∀ W a b c a' b' c', RdAt W N a b c → RdAt W N a' b' c' → Calls Try.prog 16 #[.agg #[.bool true, a, b, c, .int .i64 N.next], .agg #[.bool true, a', b', c', .int .i64 N.next]] W fun e w' => e = .returned (.bool true) ∧ Below W.heap.size W w') := fun W a b c a' b' c' h1 h2 => sameF hf hlf rfl h1 h2
  have HPU : Hid (∀ W a b c kv yv, NdAt W N a b c → Sl W kv K → Sl W yv V → Calls Try.prog 10 #[.agg #[.bool true, a, b, c, .int .i64 N.next], kv, yv] W fun e w' => ∃ a' b' c', e = .returned (.agg #[.bool true, a', b', c', .int .i64 N.next]) ∧ Below W.heap.size W w' ∧ NdAt w' (putN N K V) a' b' c') := fun W a b c kv yv h1 h2 h3 => putF hf hkl hyl hrk hrv hlf rfl rfl h1 h2 h3
  have HDE : Hid (∀ W a b c kv, NdAt W N a b c → Sl W kv K → Calls Try.prog 9 #[.agg #[.bool true, a, b, c, .int .i64 N.next], kv] W fun e w' => ∃ a' b' c', e = .returned (.tuple #[.agg #[.bool true, a', b', c', .int .i64 N.next], .bool false]) ∧ Below W.heap.size W w' ∧ NdAt w' N a' b' c') := fun W a b c kv h1 h2 => delF hf hlf rfl hDN hDH h1 h2
  have HFP : Hid (∀ W a b c kv, NdAt W (putN N K V) a b c → Sl W kv K → Calls Try.prog 21 #[.agg #[.bool true, a, b, c, .int .i64 N.next], kv] W fun e w' => e = .returned (.tuple #[.int .i64 (plc N.keys K : Int), .bool true]) ∧ Below W.heap.size W w') := fun W a b c kv h1 h2 => findF hPF hPI.leaf hPI.next hPI.at' hPI.has h1 h2
  have HFD : Hid (∀ W a b c kv, NdAt W N a b c → Sl W kv K → Calls Try.prog 21 #[.agg #[.bool true, a, b, c, .int .i64 N.next], kv] W fun e w' => e = .returned (.tuple #[.int .i64 (plc N.keys K : Int), .bool false]) ∧ Below W.heap.size W w') := fun W a b c kv h1 h2 => findF hf hlf rfl rfl hhk h1 h2
  have HDP : Hid (∀ W a b c kv, NdAt W (putN N K V) a b c → Sl W kv K → Calls Try.prog 9 #[.agg #[.bool true, a, b, c, .int .i64 N.next], kv] W fun e w' => ∃ a' b' c', e = .returned (.tuple #[.agg #[.bool true, a', b', c', .int .i64 N.next], .bool (delH (putN N K V) K)]) ∧ Below W.heap.size W w' ∧ NdAt w' N a' b' c') := fun W a b c kv h1 h2 => delF hPF hPI.leaf hPI.next hBK rfl h1 h2
  have HLG := hide hPI.long
  have HVA := hide hPI.val
  have HPK := hide hPK
  have HAW := hide awake_any
  have hb0 : Below w.heap.size w (w.alloc (.cells #[.bool N.leaf, .slice ak N.keys.length ck, .slice av N.vals.length cv, .slice ai N.kids.length ci, .int .i64 N.next] 26)) := (Below.refl _ _).alloc (Nat.le_refl _) _
  have HS0 := hide (show NSt w _ N N.leaf N.next _ _ _ _ _ K V from ⟨hb0, Box.new (t := 26) w (.bool N.leaf) (.slice ak N.keys.length ck) (.slice av N.vals.length cv) (.slice ai N.kids.length ci) (.int .i64 N.next), h.belowW hb0, hk.belowW hb0, hy.belowW hb0⟩)
  have hkf := hf.keys
  clear hb0 h hf hk hy hkl hyl hs hz hm HSD
  clear hPI hPF hDH hDN hPK hPH hBK
  rw [hlf] at HS0
  generalize putN N K V = P at *
  generalize delH P K = dq at *
  rw [hlf]
  clear hlf
  clear hhk
  generalize plc N.keys K = pp at *
  generalize N.size = sz at *
  generalize hnk : N.keys.length = nk at *
  have HNK := hide hnk
  clear hnk
  generalize hnv : N.vals.length = nv at *
  clear hnv
  generalize hni : N.kids.length = ni at *
  clear hni
  generalize N.next = x at *
  go_enter Try.func6, Try.ntmps6
  go_upto_region 1 with fail
  generalize (w.alloc (.cells #[.bool true, .slice ak nk ck, .slice av nv cv, .slice ai ni ci, .int .i64 x] 26)) = W0 at *
  obtain ⟨k0, k1, k2, k3, k4, f0, f1, f2, f3, f4⟩ := HS0.out.nb.cells
  go_wp2_with fail
  refine (HFIT.out W0 HS0.out.na).mono ?_
  rintro e W1 ⟨rfl, hq1⟩
  clear k0 k1 k2 k3 k4 f0 f1 f2 f3 f4
  have HS1 := hide (HS0.out.next hq1)
  clear hq1 HS0 HFIT
  obtain ⟨k0, k1, k2, k3, k4, f0, f1, f2, f3, f4⟩ := HS1.out.nb.cells
  go_upto_region 3 with fail
  go_wp2_with fail
  refine (HFN.out W1 _ _ _ _ HS1.out.na HS1.out.k).mono ?_
  rintro e W2 ⟨rfl, hq2⟩
  clear k0 k1 k2 k3 k4 f0 f1 f2 f3 f4
  have HS2 := hide (HS1.out.next hq2)
  clear hq2 HS1
  go_upto_region 4 with fail
  have st0 := HS2.out.next (below_drewN _ _ 1)
  refine wp_region_held_drew (S := fun w' => NSt w w' N true x (.slice ak nk ck) (.slice av nv cv) (.slice ai ni ci) (.slice u1 K.length u2) (.slice y1 V.length y2) K V) (by kernel_rfl) st0 (fun _ => ?_)
  refine take_to 0 32 (.agg #[.bool true, .slice ak nk ck, .slice av nv cv, .slice ai ni ci, .int .i64 x]) rfl (by kernel_rfl) (by kernel_rfl) (by kernel_rfl) (fun _ _ _ h => h) rfl (by rfl) (fun w hw => op_load _ _ 26 (.tmp 3) rfl (.pointer (some ⟨_, 0, none⟩)) _ rfl (load26 hw.nb)) st0 ?_
  simp only [Act.put, List.setIfInBounds_toArray, List.set_cons_zero, List.set_cons_succ]
  refine take_to 2 34 (.slice u1 K.length u2) rfl (by kernel_rfl) (by kernel_rfl) (by kernel_rfl) (fun _ _ _ h => h) rfl (by rfl) (fun w hw => by rfl) st0 ?_
  simp only [Act.put, List.setIfInBounds_toArray, List.set_cons_zero, List.set_cons_succ]
  refine take_to 3 35 (.string (strOf K)) rfl (by kernel_rfl) (by kernel_rfl) (by kernel_rfl) (fun _ _ _ h => h) rfl (by rfl) (fun w hw => op_conv _ _ 28 9 (.tmp 34) rfl _ _ rfl (run_str hw.k)) st0 ?_
  simp only [Act.put, List.setIfInBounds_toArray, List.set_cons_zero, List.set_cons_succ]
  refine step_call1_to 1 33 17 rfl (by kernel_rfl) rfl (by rfl) (.tmp 32) _ rfl _ rfl Try.enters17 (HTN.out _ _ _ _ st0.na) ?_
  rintro e T1 ⟨r1, r2, rfl, hq1, hr1⟩
  have st1 := st0.next hq1
  refine ⟨_, rfl, st1, ?_⟩
  simp only [Act.put, List.setIfInBounds_toArray, List.set_cons_zero, List.set_cons_succ]
  refine step_call2_to 4 36 22 rfl (by kernel_rfl) rfl (by rfl) (.tmp 33) (.tmp 35) _ rfl _ _ rfl rfl Try.enters22 (HRF.out _ _ _ _ hr1) ?_
  rintro e T2 ⟨rfl, hq2⟩
  have st2 := st1.next hq2
  refine ⟨_, rfl, st2, ?_⟩
  simp only [Act.put, List.setIfInBounds_toArray, List.set_cons_zero, List.set_cons_succ]
  refine take_to 5 31 (.tuple #[.int .i64 (pp : Int), .bool false]) rfl (by kernel_rfl) (by kernel_rfl) (by kernel_rfl) (fun _ _ _ h => h) rfl (by rfl) (fun w hw => by rfl) st2 ?_
  simp only [Act.put, List.setIfInBounds_toArray, List.set_cons_zero, List.set_cons_succ]
  refine take_to 6 37 (.int .i64 (pp : Int)) rfl (by kernel_rfl) (by kernel_rfl) (by kernel_rfl) (fun _ _ _ h => h) rfl (by rfl) (fun w hw => by rfl) st2 ?_
  simp only [Act.put, List.setIfInBounds_toArray, List.set_cons_zero, List.set_cons_succ]
  refine take_to 7 38 (.bool false) rfl (by kernel_rfl) (by kernel_rfl) (by kernel_rfl) (fun _ _ _ h => h) rfl (by rfl) (fun w hw => by rfl) st2 ?_
  simp only [Act.put, List.setIfInBounds_toArray, List.set_cons_zero, List.set_cons_succ]
  refine take_to 8 9 (.int .i64 (pp : Int)) rfl (by kernel_rfl) (by kernel_rfl) (by kernel_rfl) (fun _ _ _ h => h) rfl (by rfl) (fun w hw => by rfl) st2 ?_
  simp only [Act.put, List.setIfInBounds_toArray, List.set_cons_zero, List.set_cons_succ]
  refine take_to 9 10 (.bool false) rfl (by kernel_rfl) (by kernel_rfl) (by kernel_rfl) (fun _ _ _ h => h) rfl (by rfl) (fun w hw => by rfl) st2 ?_
  simp only [Act.put, List.setIfInBounds_toArray, List.set_cons_zero, List.set_cons_succ]
  refine wpAnyH_done (by kernel_rfl) ?_ _
  have HS3 := hide st2
  clear st0 st1 st2 hq1 hq2 hr1 HS2 HRF
  go_upto_region 5 with fail
  obtain ⟨k0, k1, k2, k3, k4, f0, f1, f2, f3, f4⟩ := HS3.out.nb.cells
  go_wp2_with fail
  refine (HPU.out _ _ _ _ _ _ HS3.out.na HS3.out.k HS3.out.y).mono ?_
  rintro e W3 ⟨m1, m2, m3, rfl, hq3, hm3⟩
  clear k0 k1 k2 k3 k4 f0 f1 f2 f3 f4
  have hs3 := HS3.out.next hq3
  obtain ⟨pa, pc, e1, _, _⟩ := hm3.keys.len
  obtain ⟨qa, qc, e2, _, _⟩ := hm3.vals.len
  obtain ⟨ra, rc, e3, _, _⟩ := hm3.kids.len
  generalize hpn : P.keys.length = pn at *
  generalize hqn : P.vals.length = qn at *
  generalize P.kids.length = rn at *
  subst e1 e2 e3
  have HPN := hide hpn
  have HQN := hide hqn
  clear hpn hqn
  have hal : Below W3.heap.size W3 (W3.alloc (.cells #[.bool true, .slice pa pn pc, .slice qa qn qc, .slice ra rn rc, .int .i64 x] 26)) := (Below.refl _ _).alloc (Nat.le_refl _) _
  have HS4 := hide (hs3.next hal)
  have HM4 := hide (MSt.new (l := true) (x := x) hm3)
  clear hq3 hm3 hs3 hal HS3 HPU
  go_upto_region 6 with fail
  generalize W3.alloc (.cells #[.bool true, .slice pa pn pc, .slice qa qn qc, .slice ra rn rc, .int .i64 x] 26) = W4 at *
  generalize W3.heap.size = bm at *
  obtain ⟨k0, k1, k2, k3, k4, f0, f1, f2, f3, f4⟩ := HS4.out.nb.cells
  go_wp2_with fail
  refine (HDE.out _ _ _ _ _ HS4.out.na HS4.out.k).mono ?_
  rintro e W5 ⟨d1, d2, d3, rfl, hq5, hd5⟩
  clear k0 k1 k2 k3 k4 f0 f1 f2 f3 f4
  have hs5 := HS4.out.next hq5
  have hm5 := HM4.out.next hq5
  obtain ⟨da, dc, e1, _, _⟩ := hd5.keys.len
  obtain ⟨ea, ec, e2, _, _⟩ := hd5.vals.len
  obtain ⟨fa, fc, e3, _, _⟩ := hd5.kids.len
  generalize hdn : N.keys.length = dn at *
  generalize N.vals.length = en at *
  generalize N.kids.length = fn at *
  subst e1 e2 e3
  have HDN := hide hdn
  clear hdn
  have hal : Below W5.heap.size W5 (W5.alloc (.cells #[.bool true, .slice da dn dc, .slice ea en ec, .slice fa fn fc, .int .i64 x] 26)) := (Below.refl _ _).alloc (Nat.le_refl _) _
  have HS6 := hide (hs5.next hal)
  have HM6 := hide (hm5.next hal)
  have HD6 := hide (MSt.new (l := true) (x := x) hd5)
  clear hq5 hd5 hs5 hm5 hal HS4 HM4 HDE
  go_upto_region 7 with fail
  generalize W5.alloc (.cells #[.bool true, .slice da dn dc, .slice ea en ec, .slice fa fn fc, .int .i64 x] 26) = W6 at *
  generalize W5.heap.size = bd at *
  have st0 := HS6.out.next (below_drewN _ _ 1)
  refine wp_region_held_drew (S := fun w' => NSt w w' N true x (.slice ak nk ck) (.slice av nv cv) (.slice ai ni ci) (.slice u1 K.length u2) (.slice y1 V.length y2) K V) (by kernel_rfl) st0 (fun _ => ?_)
  refine take_to 0 49 (.int .i64 (pp : Int)) rfl (by kernel_rfl) (by kernel_rfl) (by kernel_rfl) (fun _ _ _ h => h) rfl (by rfl) (fun w hw => by rfl) st0 ?_
  simp only [Act.put, List.setIfInBounds_toArray, List.set_cons_zero, List.set_cons_succ]
  refine take_to 1 50 (.int .i64 (pp : Int)) rfl (by kernel_rfl) (by kernel_rfl) (by kernel_rfl) (fun _ _ _ h => h) rfl (by rfl) (fun w hw => by rfl) st0 ?_
  simp only [Act.put, List.setIfInBounds_toArray, List.set_cons_zero, List.set_cons_succ]
  refine take_to 2 51 (.bool false) rfl (by kernel_rfl) (by kernel_rfl) (by kernel_rfl) (fun _ _ _ h => h) rfl (by rfl) (fun w hw => op_neq3 _ _ (.tmp 49) (.tmp 50) _ rfl _ _ rfl rfl false (by simp)) st0 ?_
  simp only [Act.put, List.setIfInBounds_toArray, List.set_cons_zero, List.set_cons_succ]
  refine take_to 3 52 (.bool false) rfl (by kernel_rfl) (by kernel_rfl) (by kernel_rfl) (fun _ _ _ h => h) rfl (by rfl) (fun w hw => by rfl) st0 ?_
  simp only [Act.put, List.setIfInBounds_toArray, List.set_cons_zero, List.set_cons_succ]
  refine take_to 4 53 (.bool false) rfl (by kernel_rfl) (by kernel_rfl) (by kernel_rfl) (fun _ _ _ h => h) rfl (by rfl) (fun w hw => by rfl) st0 ?_
  simp only [Act.put, List.setIfInBounds_toArray, List.set_cons_zero, List.set_cons_succ]
  refine take_to 5 54 (.bool false) rfl (by kernel_rfl) (by kernel_rfl) (by kernel_rfl) (fun _ _ _ h => h) rfl (by rfl) (fun w hw => by rfl) st0 ?_
  simp only [Act.put, List.setIfInBounds_toArray, List.set_cons_zero, List.set_cons_succ]
  refine take_to 6 55 (.bool false) rfl (by kernel_rfl) (by kernel_rfl) (by kernel_rfl) (fun _ _ _ h => h) rfl (by rfl) (fun w hw => op_neq4 _ _ (.tmp 53) (.tmp 54) _ rfl false rfl rfl) st0 ?_
  simp only [Act.put, List.setIfInBounds_toArray, List.set_cons_zero, List.set_cons_succ]
  refine take_to 7 56 (.bool false) rfl (by kernel_rfl) (by kernel_rfl) (by kernel_rfl) (fun _ _ _ h => h) rfl (by rfl) (fun w hw => by rfl) st0 ?_
  simp only [Act.put, List.setIfInBounds_toArray, List.set_cons_zero, List.set_cons_succ]
  refine take_to 8 57 (.bool false) rfl (by kernel_rfl) (by kernel_rfl) (by kernel_rfl) (fun _ _ _ h => h) rfl (by rfl) (fun w hw => by rfl) st0 ?_
  simp only [Act.put, List.setIfInBounds_toArray, List.set_cons_zero, List.set_cons_succ]
  refine take_to 9 58 (.agg #[.bool true, .slice ak nk ck, .slice av nv cv, .slice ai ni ci, .int .i64 x]) rfl (by kernel_rfl) (by kernel_rfl) (by kernel_rfl) (fun _ _ _ h => h) rfl (by rfl) (fun w hw => op_load _ _ 26 (.tmp 3) rfl (.pointer (some ⟨_, 0, none⟩)) _ rfl (load26 hw.nb)) st0 ?_
  simp only [Act.put, List.setIfInBounds_toArray, List.set_cons_zero, List.set_cons_succ]
  refine take_to 11 60 (.agg #[.bool true, .slice ak nk ck, .slice av nv cv, .slice ai ni ci, .int .i64 x]) rfl (by kernel_rfl) (by kernel_rfl) (by kernel_rfl) (fun _ _ _ h => h) rfl (by rfl) (fun w hw => op_load _ _ 26 (.tmp 3) rfl (.pointer (some ⟨_, 0, none⟩)) _ rfl (load26 hw.nb)) st0 ?_
  simp only [Act.put, List.setIfInBounds_toArray, List.set_cons_zero, List.set_cons_succ]
  refine step_call1_to 10 59 23 rfl (by kernel_rfl) rfl (by rfl) (.tmp 58) _ rfl _ rfl Try.enters23 (HSZ.out _ _ _ _ st0.na) ?_
  rintro e T3 ⟨rfl, hq3⟩
  have st1 := st0.next hq3
  refine ⟨_, rfl, st1, ?_⟩
  simp only [Act.put, List.setIfInBounds_toArray, List.set_cons_zero, List.set_cons_succ]
  refine step_call1_to 12 61 17 rfl (by kernel_rfl) rfl (by rfl) (.tmp 60) _ rfl _ rfl Try.enters17 (HTN.out _ _ _ _ st1.na) ?_
  rintro e T4 ⟨r3, r4, rfl, hq4, hr4⟩
  have st2 := st1.next hq4
  refine ⟨_, rfl, st2, ?_⟩
  simp only [Act.put, List.setIfInBounds_toArray, List.set_cons_zero, List.set_cons_succ]
  refine step_call1_to 13 62 24 rfl (by kernel_rfl) rfl (by rfl) (.tmp 61) _ rfl _ rfl Try.enters24 (HRS.out _ _ _ _ hr4) ?_
  rintro e T5 ⟨rfl, hq5⟩
  have st3 := st2.next hq5
  refine ⟨_, rfl, st3, ?_⟩
  simp only [Act.put, List.setIfInBounds_toArray, List.set_cons_zero, List.set_cons_succ]
  refine take_to 14 63 (.bool false) rfl (by kernel_rfl) (by kernel_rfl) (by kernel_rfl) (fun _ _ _ h => h) rfl (by rfl) (fun w hw => op_neq3 _ _ (.tmp 59) (.tmp 62) _ rfl _ _ rfl rfl false (by simp)) st3 ?_
  simp only [Act.put, List.setIfInBounds_toArray, List.set_cons_zero, List.set_cons_succ]
  refine take_to 15 64 (.bool false) rfl (by kernel_rfl) (by kernel_rfl) (by kernel_rfl) (fun _ _ _ h => h) rfl (by rfl) (fun w hw => by rfl) st3 ?_
  simp only [Act.put, List.setIfInBounds_toArray, List.set_cons_zero, List.set_cons_succ]
  refine wpAnyH_done (by kernel_rfl) ?_ _
  have hbz := ((below_drewN W6.heap.size W6 1).trans ((hq3.mono (Nat.le_refl _)).trans ((hq4.mono hq3.size).trans (hq5.mono (Nat.le_trans hq3.size hq4.size)))))
  have HS7 := hide (HS6.out.next hbz)
  have HM7 := hide (HM6.out.next hbz)
  have HD7 := hide (HD6.out.next hbz)
  clear st0 st1 st2 st3 hq3 hq4 hq5 hr4 hbz HS6 HM6 HD6 HSZ HRS
  obtain ⟨k0, k1, k2, k3, k4, f0, f1, f2, f3, f4⟩ := HS7.out.nb.cells
  go_upto_region 11 with fail
  clear k0 k1 k2 k3 k4 f0 f1 f2 f3 f4
  obtain ⟨j0, j1, j2, j3, j4, g0, g1, g2, g3, g4⟩ := HM7.out.box.cells
  go_wp2_with fail
  refine (HFP.out _ _ _ _ _ HM7.out.at' HS7.out.k).mono ?_
  rintro e W8 ⟨rfl, hq8⟩
  clear j0 j1 j2 j3 j4 g0 g1 g2 g3 g4
  have HS8 := hide (HS7.out.next hq8)
  have HM8 := hide (HM7.out.next hq8)
  have HD8 := hide (HD7.out.next hq8)
  clear hq8 HS7 HM7 HD7 HFP
  go_upto_region 12 with fail
  obtain ⟨gv, ov, va, vc, hqa, hcell, hsl, _, _⟩ := HM8.out.at'.vals.get pp (by rw [HQN.out]; exact HLG.out)
  subst hqa
  rw [HVA.out] at hcell hsl
  have hlg : pp < qn := HLG.out
  have hE : Below W8.heap.size W8 W8.drew := below_drewN _ _ 1
  refine wp_region_held_drew (S := fun w' => (NSt w w' N true x (.slice ak nk ck) (.slice av nv cv) (.slice ai ni ci) (.slice u1 K.length u2) (.slice y1 V.length y2) K V) ∧ MSt w' P true x bm (.slice pa pn pc) (.slice (some ⟨gv, ov, none⟩) qn qc) (.slice ra rn rc) ∧ w'.cell? ⟨gv, ov + pp, none⟩ = some (.slice va V.length vc) ∧ Sl w' (.slice va V.length vc) V) (by kernel_rfl) ⟨HS8.out.next hE, HM8.out.next hE, hcell, hsl.belowW hE⟩ (fun st0 => ?_)
  refine take_to 0 93 (.bool true) rfl (by kernel_rfl) (by kernel_rfl) (by kernel_rfl) (fun _ _ _ h => h) rfl (by rfl) (fun w hw => by rfl) st0 ?_
  simp only [Act.put, List.setIfInBounds_toArray, List.set_cons_zero, List.set_cons_succ]
  refine take_to 1 94 (.bool false) rfl (by kernel_rfl) (by kernel_rfl) (by kernel_rfl) (fun _ _ _ h => h) rfl (by rfl) (fun w hw => by rfl) st0 ?_
  simp only [Act.put, List.setIfInBounds_toArray, List.set_cons_zero, List.set_cons_succ]
  refine take_to 2 95 (.bool false) rfl (by kernel_rfl) (by kernel_rfl) (by kernel_rfl) (fun _ _ _ h => h) rfl (by rfl) (fun w hw => by rfl) st0 ?_
  simp only [Act.put, List.setIfInBounds_toArray, List.set_cons_zero, List.set_cons_succ]
  refine take_to 3 96 (.int .i64 (pp : Int)) rfl (by kernel_rfl) (by kernel_rfl) (by kernel_rfl) (fun _ _ _ h => h) rfl (by rfl) (fun w hw => by rfl) st0 ?_
  simp only [Act.put, List.setIfInBounds_toArray, List.set_cons_zero, List.set_cons_succ]
  refine take_to 4 97 (.int .i64 (pp : Int)) rfl (by kernel_rfl) (by kernel_rfl) (by kernel_rfl) (fun _ _ _ h => h) rfl (by rfl) (fun w hw => by rfl) st0 ?_
  simp only [Act.put, List.setIfInBounds_toArray, List.set_cons_zero, List.set_cons_succ]
  refine take_to 5 98 (.bool false) rfl (by kernel_rfl) (by kernel_rfl) (by kernel_rfl) (fun _ _ _ h => h) rfl (by rfl) (fun w hw => op_neq3 _ _ (.tmp 96) (.tmp 97) _ rfl _ _ rfl rfl false (by simp)) st0 ?_
  simp only [Act.put, List.setIfInBounds_toArray, List.set_cons_zero, List.set_cons_succ]
  refine take_to 6 99 (.bool false) rfl (by kernel_rfl) (by kernel_rfl) (by kernel_rfl) (fun _ _ _ h => h) rfl (by rfl) (fun w hw => by rfl) st0 ?_
  simp only [Act.put, List.setIfInBounds_toArray, List.set_cons_zero, List.set_cons_succ]
  refine take_to 7 100 (.bool false) rfl (by kernel_rfl) (by kernel_rfl) (by kernel_rfl) (fun _ _ _ h => h) rfl (by rfl) (fun w hw => by rfl) st0 ?_
  simp only [Act.put, List.setIfInBounds_toArray, List.set_cons_zero, List.set_cons_succ]
  refine take_to 8 101 (.pointer (some ⟨bm, 2, none⟩)) rfl (by kernel_rfl) (by kernel_rfl) (by kernel_rfl) (fun _ _ _ h => h) rfl (by rfl) (fun w hw => by rfl) st0 ?_
  simp only [Act.put, List.setIfInBounds_toArray, List.set_cons_zero, List.set_cons_succ]
  refine take_to 9 102 (.slice (some ⟨gv, ov, none⟩) qn qc) rfl (by kernel_rfl) (by kernel_rfl) (by kernel_rfl) (fun _ _ _ h => h) rfl (by rfl) (fun w hw => op_load _ _ 22 (.tmp 101) rfl (.pointer (some ⟨_, 2, none⟩)) _ rfl (run_loadAny w _ 2 22 _ Try.isAgg22 hw.2.1.box.cells.k2)) st0 ?_
  simp only [Act.put, List.setIfInBounds_toArray, List.set_cons_zero, List.set_cons_succ]
  refine take_to 10 103 (.int .i64 (qn : Int)) rfl (by kernel_rfl) (by kernel_rfl) (by kernel_rfl) (fun _ _ _ h => h) rfl (by rfl) (fun w hw => op_len _ _ (.tmp 102) 22 28 Try.underlying22 rfl _ qn qc rfl) st0 ?_
  simp only [Act.put, List.setIfInBounds_toArray, List.set_cons_zero, List.set_cons_succ]
  refine take_to 11 104 (.int .i64 (pp : Int)) rfl (by kernel_rfl) (by kernel_rfl) (by kernel_rfl) (fun _ _ _ h => h) rfl (by rfl) (fun w hw => by rfl) st0 ?_
  simp only [Act.put, List.setIfInBounds_toArray, List.set_cons_zero, List.set_cons_succ]
  refine take_to 12 105 (.bool false) rfl (by kernel_rfl) (by kernel_rfl) (by kernel_rfl) (fun _ _ _ h => h) rfl (by rfl) (fun w hw => op_leq3 _ _ (.tmp 103) (.tmp 104) _ rfl _ _ rfl rfl false (by simp; omega)) st0 ?_
  simp only [Act.put, List.setIfInBounds_toArray, List.set_cons_zero, List.set_cons_succ]
  refine take_to 13 106 (.bool false) rfl (by kernel_rfl) (by kernel_rfl) (by kernel_rfl) (fun _ _ _ h => h) rfl (by rfl) (fun w hw => by rfl) st0 ?_
  simp only [Act.put, List.setIfInBounds_toArray, List.set_cons_zero, List.set_cons_succ]
  refine take_to 14 107 (.bool false) rfl (by kernel_rfl) (by kernel_rfl) (by kernel_rfl) (fun _ _ _ h => h) rfl (by rfl) (fun w hw => by rfl) st0 ?_
  simp only [Act.put, List.setIfInBounds_toArray, List.set_cons_zero, List.set_cons_succ]
  refine take_to 15 108 (.pointer (some ⟨bm, 2, none⟩)) rfl (by kernel_rfl) (by kernel_rfl) (by kernel_rfl) (fun _ _ _ h => h) rfl (by rfl) (fun w hw => by rfl) st0 ?_
  simp only [Act.put, List.setIfInBounds_toArray, List.set_cons_zero, List.set_cons_succ]
  refine take_to 16 109 (.slice (some ⟨gv, ov, none⟩) qn qc) rfl (by kernel_rfl) (by kernel_rfl) (by kernel_rfl) (fun _ _ _ h => h) rfl (by rfl) (fun w hw => op_load _ _ 22 (.tmp 108) rfl (.pointer (some ⟨_, 2, none⟩)) _ rfl (run_loadAny w _ 2 22 _ Try.isAgg22 hw.2.1.box.cells.k2)) st0 ?_
  simp only [Act.put, List.setIfInBounds_toArray, List.set_cons_zero, List.set_cons_succ]
  refine take_to 17 110 (.int .i64 (pp : Int)) rfl (by kernel_rfl) (by kernel_rfl) (by kernel_rfl) (fun _ _ _ h => h) rfl (by rfl) (fun w hw => by rfl) st0 ?_
  simp only [Act.put, List.setIfInBounds_toArray, List.set_cons_zero, List.set_cons_succ]
  refine take_to 18 111 (.pointer (some ⟨gv, ov + pp, none⟩)) rfl (by kernel_rfl) (by kernel_rfl) (by kernel_rfl) (fun _ _ _ h => h) rfl (by rfl) (fun w hw => op_index _ _ 22 (.tmp 109) (.tmp 110) rfl _ _ _ rfl rfl (run_index22 w gv ov qn qc pp hlg)) st0 ?_
  simp only [Act.put, List.setIfInBounds_toArray, List.set_cons_zero, List.set_cons_succ]
  refine take_to 19 112 (.slice va V.length vc) rfl (by kernel_rfl) (by kernel_rfl) (by kernel_rfl) (fun _ _ _ h => h) rfl (by rfl) (fun w hw => op_load _ _ 28 (.tmp 111) rfl (.pointer (some ⟨_, _, none⟩)) _ rfl (run_loadAny w _ _ 28 _ Try.isAgg28 hw.2.2.1)) st0 ?_
  simp only [Act.put, List.setIfInBounds_toArray, List.set_cons_zero, List.set_cons_succ]
  refine take_to 20 113 (.string (strOf V)) rfl (by kernel_rfl) (by kernel_rfl) (by kernel_rfl) (fun _ _ _ h => h) rfl (by rfl) (fun w hw => op_conv _ _ 28 9 (.tmp 112) rfl _ _ rfl (run_str hw.2.2.2)) st0 ?_
  simp only [Act.put, List.setIfInBounds_toArray, List.set_cons_zero, List.set_cons_succ]
  refine take_to 21 114 (.slice y1 V.length y2) rfl (by kernel_rfl) (by kernel_rfl) (by kernel_rfl) (fun _ _ _ h => h) rfl (by rfl) (fun w hw => by rfl) st0 ?_
  simp only [Act.put, List.setIfInBounds_toArray, List.set_cons_zero, List.set_cons_succ]
  refine take_to 22 115 (.string (strOf V)) rfl (by kernel_rfl) (by kernel_rfl) (by kernel_rfl) (fun _ _ _ h => h) rfl (by rfl) (fun w hw => op_conv _ _ 28 9 (.tmp 114) rfl _ _ rfl (run_str hw.1.y)) st0 ?_
  simp only [Act.put, List.setIfInBounds_toArray, List.set_cons_zero, List.set_cons_succ]
  refine take_to 23 116 (.bool false) rfl (by kernel_rfl) (by kernel_rfl) (by kernel_rfl) (fun _ _ _ h => h) rfl (by rfl) (fun w hw => op_neq9 _ _ (.tmp 113) (.tmp 115) _ rfl (strOf V) rfl rfl) st0 ?_
  simp only [Act.put, List.setIfInBounds_toArray, List.set_cons_zero, List.set_cons_succ]
  refine take_to 24 117 (.bool false) rfl (by kernel_rfl) (by kernel_rfl) (by kernel_rfl) (fun _ _ _ h => h) rfl (by rfl) (fun w hw => by rfl) st0 ?_
  simp only [Act.put, List.setIfInBounds_toArray, List.set_cons_zero, List.set_cons_succ]
  refine take_to 25 118 (.bool false) rfl (by kernel_rfl) (by kernel_rfl) (by kernel_rfl) (fun _ _ _ h => h) rfl (by rfl) (fun w hw => by rfl) st0 ?_
  simp only [Act.put, List.setIfInBounds_toArray, List.set_cons_zero, List.set_cons_succ]
  refine take_to 26 119 (.bool false) rfl (by kernel_rfl) (by kernel_rfl) (by kernel_rfl) (fun _ _ _ h => h) rfl (by rfl) (fun w hw => by rfl) st0 ?_
  simp only [Act.put, List.setIfInBounds_toArray, List.set_cons_zero, List.set_cons_succ]
  refine take_to 27 120 (.bool false) rfl (by kernel_rfl) (by kernel_rfl) (by kernel_rfl) (fun _ _ _ h => h) rfl (by rfl) (fun w hw => by rfl) st0 ?_
  simp only [Act.put, List.setIfInBounds_toArray, List.set_cons_zero, List.set_cons_succ]
  refine take_to 28 121 (.bool false) rfl (by kernel_rfl) (by kernel_rfl) (by kernel_rfl) (fun _ _ _ h => h) rfl (by rfl) (fun w hw => op_neq4 _ _ (.tmp 119) (.tmp 120) _ rfl false rfl rfl) st0 ?_
  simp only [Act.put, List.setIfInBounds_toArray, List.set_cons_zero, List.set_cons_succ]
  refine take_to 29 122 (.bool false) rfl (by kernel_rfl) (by kernel_rfl) (by kernel_rfl) (fun _ _ _ h => h) rfl (by rfl) (fun w hw => by rfl) st0 ?_
  simp only [Act.put, List.setIfInBounds_toArray, List.set_cons_zero, List.set_cons_succ]
  refine take_to 30 123 (.bool false) rfl (by kernel_rfl) (by kernel_rfl) (by kernel_rfl) (fun _ _ _ h => h) rfl (by rfl) (fun w hw => by rfl) st0 ?_
  simp only [Act.put, List.setIfInBounds_toArray, List.set_cons_zero, List.set_cons_succ]
  refine take_to 31 124 (.pointer (some ⟨bm, 4, none⟩)) rfl (by kernel_rfl) (by kernel_rfl) (by kernel_rfl) (fun _ _ _ h => h) rfl (by rfl) (fun w hw => by rfl) st0 ?_
  simp only [Act.put, List.setIfInBounds_toArray, List.set_cons_zero, List.set_cons_succ]
  refine take_to 32 125 (.int .i64 x) rfl (by kernel_rfl) (by kernel_rfl) (by kernel_rfl) (fun _ _ _ h => h) rfl (by rfl) (fun w hw => op_load _ _ 3 (.tmp 124) rfl (.pointer (some ⟨_, 4, none⟩)) _ rfl (run_loadAny w _ 4 3 _ Try.isAgg3 hw.2.1.box.cells.k4)) st0 ?_
  simp only [Act.put, List.setIfInBounds_toArray, List.set_cons_zero, List.set_cons_succ]
  refine take_to 33 126 (.pointer (some ⟨w.heap.size, 4, none⟩)) rfl (by kernel_rfl) (by kernel_rfl) (by kernel_rfl) (fun _ _ _ h => h) rfl (by rfl) (fun w hw => by rfl) st0 ?_
  simp only [Act.put, List.setIfInBounds_toArray, List.set_cons_zero, List.set_cons_succ]
  refine take_to 34 127 (.int .i64 x) rfl (by kernel_rfl) (by kernel_rfl) (by kernel_rfl) (fun _ _ _ h => h) rfl (by rfl) (fun w hw => op_load _ _ 3 (.tmp 126) rfl (.pointer (some ⟨_, 4, none⟩)) _ rfl (run_loadAny w _ 4 3 _ Try.isAgg3 hw.1.nb.cells.k4)) st0 ?_
  simp only [Act.put, List.setIfInBounds_toArray, List.set_cons_zero, List.set_cons_succ]
  refine take_to 35 128 (.bool false) rfl (by kernel_rfl) (by kernel_rfl) (by kernel_rfl) (fun _ _ _ h => h) rfl (by rfl) (fun w hw => op_neq3 _ _ (.tmp 125) (.tmp 127) _ rfl _ _ rfl rfl false (by simp)) st0 ?_
  simp only [Act.put, List.setIfInBounds_toArray, List.set_cons_zero, List.set_cons_succ]
  refine take_to 36 129 (.bool false) rfl (by kernel_rfl) (by kernel_rfl) (by kernel_rfl) (fun _ _ _ h => h) rfl (by rfl) (fun w hw => by rfl) st0 ?_
  simp only [Act.put, List.setIfInBounds_toArray, List.set_cons_zero, List.set_cons_succ]
  refine wpAnyH_done (by kernel_rfl) ?_ _
  have HS9 := hide (HS8.out.next hE)
  have HM9 := hide (HM8.out.next hE)
  have HD9 := hide (HD8.out.next hE)
  clear st0 hE HS8 HM8 HD8 hcell hsl HVA HLG
  generalize W8.drew = W9 at *
  obtain ⟨k0, k1, k2, k3, k4, f0, f1, f2, f3, f4⟩ := HS9.out.nb.cells
  go_upto_region 17 with fail
  clear k0 k1 k2 k3 k4 f0 f1 f2 f3 f4
  obtain ⟨j0, j1, j2, j3, j4, g0, g1, g2, g3, g4⟩ := HD9.out.box.cells
  go_wp2_with fail
  refine (HFD.out _ _ _ _ _ HD9.out.at' HS9.out.k).mono ?_
  rintro e W10 ⟨rfl, hq10⟩
  clear j0 j1 j2 j3 j4 g0 g1 g2 g3 g4
  have HS10 := hide (HS9.out.next hq10)
  have HM10 := hide (HM9.out.next hq10)
  have HD10 := hide (HD9.out.next hq10)
  clear hq10 HS9 HM9 HD9 HFD
  go_upto_region 18 with fail
  have hE : Below W10.heap.size W10 W10.drew := below_drewN _ _ 1
  have hS18 : Hid (∀ W, Below W10.heap.size W10 W → (NSt w W N true x (.slice ak nk ck) (.slice av nv cv) (.slice ai ni ci) (.slice u1 K.length u2) (.slice y1 V.length y2) K V) ∧ MSt W P true x bm (.slice pa pn pc) (.slice (some ⟨gv, ov, none⟩) qn qc) (.slice ra rn rc) ∧ MSt W N true x bd (.slice da dn dc) (.slice ea en ec) (.slice fa fn fc)) := fun W hW => ⟨HS10.out.next hW, HM10.out.next hW, HD10.out.next hW⟩
  have hpw := HPK.out
  have hdw := HNK.out
  refine wp_region_held_drew (S := fun w' => (NSt w w' N true x (.slice ak nk ck) (.slice av nv cv) (.slice ai ni ci) (.slice u1 K.length u2) (.slice y1 V.length y2) K V) ∧ MSt w' P true x bm (.slice pa pn pc) (.slice (some ⟨gv, ov, none⟩) qn qc) (.slice ra rn rc) ∧ MSt w' N true x bd (.slice da dn dc) (.slice ea en ec) (.slice fa fn fc)) (by kernel_rfl) (hS18.out _ hE) (fun st0 => ?_)
  refine take_to 0 143 (.pointer (some ⟨bm, 1, none⟩)) rfl (by kernel_rfl) (by kernel_rfl) (by kernel_rfl) (fun _ _ _ h => h) rfl (by rfl) (fun w hw => by rfl) st0 ?_
  simp only [Act.put, List.setIfInBounds_toArray, List.set_cons_zero, List.set_cons_succ]
  refine take_to 1 144 (.slice pa pn pc) rfl (by kernel_rfl) (by kernel_rfl) (by kernel_rfl) (fun _ _ _ h => h) rfl (by rfl) (fun w hw => op_load _ _ 22 (.tmp 143) rfl (.pointer (some ⟨_, 1, none⟩)) _ rfl (run_loadAny w _ 1 22 _ Try.isAgg22 hw.2.1.box.cells.k1)) st0 ?_
  simp only [Act.put, List.setIfInBounds_toArray, List.set_cons_zero, List.set_cons_succ]
  refine take_to 2 145 (.int .i64 (pn : Int)) rfl (by kernel_rfl) (by kernel_rfl) (by kernel_rfl) (fun _ _ _ h => h) rfl (by rfl) (fun w hw => op_len _ _ (.tmp 144) 22 28 Try.underlying22 rfl _ pn pc rfl) st0 ?_
  simp only [Act.put, List.setIfInBounds_toArray, List.set_cons_zero, List.set_cons_succ]
  refine take_to 3 146 (.int .i64 ((nk : Int) + 1)) rfl (by kernel_rfl) (by kernel_rfl) (by kernel_rfl) (fun _ _ _ h => h) rfl (by rfl) (fun w hw => by rfl) st0 ?_
  simp only [Act.put, List.setIfInBounds_toArray, List.set_cons_zero, List.set_cons_succ]
  refine take_to 4 147 (.bool false) rfl (by kernel_rfl) (by kernel_rfl) (by kernel_rfl) (fun _ _ _ h => h) rfl (by rfl) (fun w hw => op_neq3 _ _ (.tmp 145) (.tmp 146) _ rfl _ _ rfl rfl false (by simp; omega)) st0 ?_
  simp only [Act.put, List.setIfInBounds_toArray, List.set_cons_zero, List.set_cons_succ]
  refine take_to 5 148 (.bool false) rfl (by kernel_rfl) (by kernel_rfl) (by kernel_rfl) (fun _ _ _ h => h) rfl (by rfl) (fun w hw => by rfl) st0 ?_
  simp only [Act.put, List.setIfInBounds_toArray, List.set_cons_zero, List.set_cons_succ]
  refine take_to 6 149 (.bool false) rfl (by kernel_rfl) (by kernel_rfl) (by kernel_rfl) (fun _ _ _ h => h) rfl (by rfl) (fun w hw => by rfl) st0 ?_
  simp only [Act.put, List.setIfInBounds_toArray, List.set_cons_zero, List.set_cons_succ]
  refine take_to 7 150 (.bool false) rfl (by kernel_rfl) (by kernel_rfl) (by kernel_rfl) (fun _ _ _ h => h) rfl (by rfl) (fun w hw => by rfl) st0 ?_
  simp only [Act.put, List.setIfInBounds_toArray, List.set_cons_zero, List.set_cons_succ]
  refine take_to 8 151 (.bool false) rfl (by kernel_rfl) (by kernel_rfl) (by kernel_rfl) (fun _ _ _ h => h) rfl (by rfl) (fun w hw => by rfl) st0 ?_
  simp only [Act.put, List.setIfInBounds_toArray, List.set_cons_zero, List.set_cons_succ]
  refine take_to 9 152 (.bool false) rfl (by kernel_rfl) (by kernel_rfl) (by kernel_rfl) (fun _ _ _ h => h) rfl (by rfl) (fun w hw => by rfl) st0 ?_
  simp only [Act.put, List.setIfInBounds_toArray, List.set_cons_zero, List.set_cons_succ]
  refine take_to 10 153 (.bool false) rfl (by kernel_rfl) (by kernel_rfl) (by kernel_rfl) (fun _ _ _ h => h) rfl (by rfl) (fun w hw => by rfl) st0 ?_
  simp only [Act.put, List.setIfInBounds_toArray, List.set_cons_zero, List.set_cons_succ]
  refine skip_to 11 154 rfl (by kernel_rfl) (by kernel_rfl) (by kernel_rfl) (fun _ _ _ h => h) rfl (by rfl) st0 ?_
  simp only [Act.put, List.setIfInBounds_toArray, List.set_cons_zero, List.set_cons_succ]
  refine skip_to 12 155 rfl (by kernel_rfl) (by kernel_rfl) (by kernel_rfl) (fun _ _ _ h => h) rfl (by rfl) st0 ?_
  simp only [Act.put, List.setIfInBounds_toArray, List.set_cons_zero, List.set_cons_succ]
  refine skip_to 13 156 rfl (by kernel_rfl) (by kernel_rfl) (by kernel_rfl) (fun _ _ _ h => h) rfl (by rfl) st0 ?_
  simp only [Act.put, List.setIfInBounds_toArray, List.set_cons_zero, List.set_cons_succ]
  refine skip_to 14 157 rfl (by kernel_rfl) (by kernel_rfl) (by kernel_rfl) (fun _ _ _ h => h) rfl (by rfl) st0 ?_
  simp only [Act.put, List.setIfInBounds_toArray, List.set_cons_zero, List.set_cons_succ]
  refine skip_to 15 158 rfl (by kernel_rfl) (by kernel_rfl) (by kernel_rfl) (fun _ _ _ h => h) rfl (by rfl) st0 ?_
  simp only [Act.put, List.setIfInBounds_toArray, List.set_cons_zero, List.set_cons_succ]
  refine skip_to 16 159 rfl (by kernel_rfl) (by kernel_rfl) (by kernel_rfl) (fun _ _ _ h => h) rfl (by rfl) st0 ?_
  simp only [Act.put, List.setIfInBounds_toArray, List.set_cons_zero, List.set_cons_succ]
  refine skip_to 17 160 rfl (by kernel_rfl) (by kernel_rfl) (by kernel_rfl) (fun _ _ _ h => h) rfl (by rfl) st0 ?_
  simp only [Act.put, List.setIfInBounds_toArray, List.set_cons_zero, List.set_cons_succ]
  refine skip_to 18 161 rfl (by kernel_rfl) (by kernel_rfl) (by kernel_rfl) (fun _ _ _ h => h) rfl (by rfl) st0 ?_
  simp only [Act.put, List.setIfInBounds_toArray, List.set_cons_zero, List.set_cons_succ]
  refine take_to 19 162 (.bool false) rfl (by kernel_rfl) (by kernel_rfl) (by kernel_rfl) (fun _ _ _ h => h) rfl (by rfl) (fun w hw => by rfl) st0 ?_
  simp only [Act.put, List.setIfInBounds_toArray, List.set_cons_zero, List.set_cons_succ]
  refine take_to 20 163 (.bool false) rfl (by kernel_rfl) (by kernel_rfl) (by kernel_rfl) (fun _ _ _ h => h) rfl (by rfl) (fun w hw => by rfl) st0 ?_
  simp only [Act.put, List.setIfInBounds_toArray, List.set_cons_zero, List.set_cons_succ]
  refine take_to 21 164 (.bool false) rfl (by kernel_rfl) (by kernel_rfl) (by kernel_rfl) (fun _ _ _ h => h) rfl (by rfl) (fun w hw => by rfl) st0 ?_
  simp only [Act.put, List.setIfInBounds_toArray, List.set_cons_zero, List.set_cons_succ]
  refine take_to 22 165 (.bool false) rfl (by kernel_rfl) (by kernel_rfl) (by kernel_rfl) (fun _ _ _ h => h) rfl (by rfl) (fun w hw => by rfl) st0 ?_
  simp only [Act.put, List.setIfInBounds_toArray, List.set_cons_zero, List.set_cons_succ]
  refine take_to 23 166 (.bool true) rfl (by kernel_rfl) (by kernel_rfl) (by kernel_rfl) (fun _ _ _ h => h) rfl (by rfl) (fun w hw => by rfl) st0 ?_
  simp only [Act.put, List.setIfInBounds_toArray, List.set_cons_zero, List.set_cons_succ]
  refine take_to 24 167 (.bool true) rfl (by kernel_rfl) (by kernel_rfl) (by kernel_rfl) (fun _ _ _ h => h) rfl (by rfl) (fun w hw => by rfl) st0 ?_
  simp only [Act.put, List.setIfInBounds_toArray, List.set_cons_zero, List.set_cons_succ]
  refine take_to 25 168 (.agg #[.bool true, .slice da dn dc, .slice ea en ec, .slice fa fn fc, .int .i64 x]) rfl (by kernel_rfl) (by kernel_rfl) (by kernel_rfl) (fun _ _ _ h => h) rfl (by rfl) (fun w hw => op_load _ _ 26 (.tmp 12) rfl (.pointer (some ⟨_, 0, none⟩)) _ rfl (load26 hw.2.2.box)) st0 ?_
  simp only [Act.put, List.setIfInBounds_toArray, List.set_cons_zero, List.set_cons_succ]
  refine take_to 27 170 (.agg #[.bool true, .slice ak nk ck, .slice av nv cv, .slice ai ni ci, .int .i64 x]) rfl (by kernel_rfl) (by kernel_rfl) (by kernel_rfl) (fun _ _ _ h => h) rfl (by rfl) (fun w hw => op_load _ _ 26 (.tmp 3) rfl (.pointer (some ⟨_, 0, none⟩)) _ rfl (load26 hw.1.nb)) st0 ?_
  simp only [Act.put, List.setIfInBounds_toArray, List.set_cons_zero, List.set_cons_succ]
  refine step_call1_to 26 169 17 rfl (by kernel_rfl) rfl (by rfl) (.tmp 168) _ rfl _ rfl Try.enters17 (HTN.out _ _ _ _ st0.2.2.at') ?_
  rintro e T6 ⟨r5, r6, rfl, hq1, hr1⟩
  have hE1 := hE.trans (hq1.mono (Nat.le_refl _))
  have st1 := hS18.out _ hE1
  refine ⟨_, rfl, st1, ?_⟩
  simp only [Act.put, List.setIfInBounds_toArray, List.set_cons_zero, List.set_cons_succ]
  refine step_call1_to 28 171 17 rfl (by kernel_rfl) rfl (by rfl) (.tmp 170) _ rfl _ rfl Try.enters17 (HTN.out _ _ _ _ st1.1.na) ?_
  rintro e T7 ⟨r7, r8, rfl, hq2, hr2⟩
  have hE2 := hE1.trans (hq2.mono hE1.size)
  have st2 := hS18.out _ hE2
  refine ⟨_, rfl, st2, ?_⟩
  simp only [Act.put, List.setIfInBounds_toArray, List.set_cons_zero, List.set_cons_succ]
  refine step_call2_to 29 172 16 rfl (by kernel_rfl) rfl (by rfl) (.tmp 169) (.tmp 171) _ rfl _ _ rfl rfl Try.enters16 (HSM.out _ _ _ _ _ _ _ (hr1.belowW hq2) hr2) ?_
  rintro e T8 ⟨rfl, hq3⟩
  have hE3 := hE2.trans (hq3.mono hE2.size)
  have st3 := hS18.out _ hE3
  refine ⟨_, rfl, st3, ?_⟩
  simp only [Act.put, List.setIfInBounds_toArray, List.set_cons_zero, List.set_cons_succ]
  refine take_to 30 173 (.bool false) rfl (by kernel_rfl) (by kernel_rfl) (by kernel_rfl) (fun _ _ _ h => h) rfl (by rfl) (fun w hw => by rfl) st3 ?_
  simp only [Act.put, List.setIfInBounds_toArray, List.set_cons_zero, List.set_cons_succ]
  refine take_to 31 174 (.bool false) rfl (by kernel_rfl) (by kernel_rfl) (by kernel_rfl) (fun _ _ _ h => h) rfl (by rfl) (fun w hw => by rfl) st3 ?_
  simp only [Act.put, List.setIfInBounds_toArray, List.set_cons_zero, List.set_cons_succ]
  refine take_to 32 175 (.bool false) rfl (by kernel_rfl) (by kernel_rfl) (by kernel_rfl) (fun _ _ _ h => h) rfl (by rfl) (fun w hw => by rfl) st3 ?_
  simp only [Act.put, List.setIfInBounds_toArray, List.set_cons_zero, List.set_cons_succ]
  refine wpAnyH_done (by kernel_rfl) ?_ _
  have HS11 := hide (HS10.out.next hE3)
  have HM11 := hide (HM10.out.next hE3)
  clear st0 st1 st2 st3 hE hE1 hE2 hE3 hq1 hq2 hq3 hr1 hr2 hpw hdw
  clear HS10 HM10 HD10 hS18
  generalize T8 = W11 at *
  go_upto_region 20 with fail
  obtain ⟨j0, j1, j2, j3, j4, g0, g1, g2, g3, g4⟩ := HM11.out.box.cells
  go_wp2_with fail
  refine (HDP.out _ _ _ _ _ HM11.out.at' HS11.out.k).mono ?_
  rintro e W12 ⟨b1, b2, b3, rfl, hq12, hb12⟩
  clear j0 j1 j2 j3 j4 g0 g1 g2 g3 g4
  have hs12 := HS11.out.next hq12
  obtain ⟨ba, bc, e1, _, _⟩ := hb12.keys.len
  obtain ⟨ga, gc, e2, _, _⟩ := hb12.vals.len
  obtain ⟨ha, hc, e3, _, _⟩ := hb12.kids.len
  generalize N.keys.length = bn at *
  generalize N.vals.length = gn at *
  generalize N.kids.length = hn at *
  subst e1 e2 e3
  have hal : Below W12.heap.size W12 (W12.alloc (.cells #[.bool true, .slice ba bn bc, .slice ga gn gc, .slice ha hn hc, .int .i64 x] 26)) := (Below.refl _ _).alloc (Nat.le_refl _) _
  have HS13 := hide (hs12.next hal)
  have HB13 := hide (MSt.new (l := true) (x := x) hb12)
  clear hq12 hb12 hs12 hal HS11 HM11 HDP
  go_upto_region 21 with fail
  generalize W12.alloc (.cells #[.bool true, .slice ba bn bc, .slice ga gn gc, .slice ha hn hc, .int .i64 x] 26) = W13 at *
  generalize W12.heap.size = bb at *
  have hE : Below W13.heap.size W13 W13.drew := below_drewN _ _ 1
  have hS21 : Hid (∀ W, Below W13.heap.size W13 W → (NSt w W N true x (.slice ak nk ck) (.slice av nv cv) (.slice ai ni ci) (.slice u1 K.length u2) (.slice y1 V.length y2) K V) ∧ MSt W N true x bb (.slice ba bn bc) (.slice ga gn gc) (.slice ha hn hc)) := fun W hW => ⟨HS13.out.next hW, HB13.out.next hW⟩
  refine wp_region_held_drew (S := fun w' => (NSt w w' N true x (.slice ak nk ck) (.slice av nv cv) (.slice ai ni ci) (.slice u1 K.length u2) (.slice y1 V.length y2) K V) ∧ MSt w' N true x bb (.slice ba bn bc) (.slice ga gn gc) (.slice ha hn hc)) (by kernel_rfl) (hS21.out _ hE) (fun st0 => ?_)
  refine take_to 0 182 (.bool false) rfl (by kernel_rfl) (by kernel_rfl) (by kernel_rfl) (fun _ _ _ h => h) rfl (by rfl) (fun w hw => by rfl) st0 ?_
  simp only [Act.put, List.setIfInBounds_toArray, List.set_cons_zero, List.set_cons_succ]
  refine take_to 1 183 (.bool false) rfl (by kernel_rfl) (by kernel_rfl) (by kernel_rfl) (fun _ _ _ h => h) rfl (by rfl) (fun w hw => by rfl) st0 ?_
  simp only [Act.put, List.setIfInBounds_toArray, List.set_cons_zero, List.set_cons_succ]
  refine take_to 2 184 (.agg #[.bool true, .slice ba bn bc, .slice ga gn gc, .slice ha hn hc, .int .i64 x]) rfl (by kernel_rfl) (by kernel_rfl) (by kernel_rfl) (fun _ _ _ h => h) rfl (by rfl) (fun w hw => op_load _ _ 26 (.tmp 19) rfl (.pointer (some ⟨_, 0, none⟩)) _ rfl (load26 hw.2.box)) st0 ?_
  simp only [Act.put, List.setIfInBounds_toArray, List.set_cons_zero, List.set_cons_succ]
  refine take_to 4 186 (.agg #[.bool true, .slice ak nk ck, .slice av nv cv, .slice ai ni ci, .int .i64 x]) rfl (by kernel_rfl) (by kernel_rfl) (by kernel_rfl) (fun _ _ _ h => h) rfl (by rfl) (fun w hw => op_load _ _ 26 (.tmp 3) rfl (.pointer (some ⟨_, 0, none⟩)) _ rfl (load26 hw.1.nb)) st0 ?_
  simp only [Act.put, List.setIfInBounds_toArray, List.set_cons_zero, List.set_cons_succ]
  refine step_call1_to 3 185 17 rfl (by kernel_rfl) rfl (by rfl) (.tmp 184) _ rfl _ rfl Try.enters17 (HTN.out _ _ _ _ st0.2.at') ?_
  rintro e T9 ⟨r9, r10, rfl, hq1, hr1⟩
  have hE1 := hE.trans (hq1.mono (Nat.le_refl _))
  have st1 := hS21.out _ hE1
  refine ⟨_, rfl, st1, ?_⟩
  simp only [Act.put, List.setIfInBounds_toArray, List.set_cons_zero, List.set_cons_succ]
  refine step_call1_to 5 187 17 rfl (by kernel_rfl) rfl (by rfl) (.tmp 186) _ rfl _ rfl Try.enters17 (HTN.out _ _ _ _ st1.1.na) ?_
  rintro e T10 ⟨r11, r12, rfl, hq2, hr2⟩
  have hE2 := hE1.trans (hq2.mono hE1.size)
  have st2 := hS21.out _ hE2
  refine ⟨_, rfl, st2, ?_⟩
  simp only [Act.put, List.setIfInBounds_toArray, List.set_cons_zero, List.set_cons_succ]
  refine step_call2_to 6 188 16 rfl (by kernel_rfl) rfl (by rfl) (.tmp 185) (.tmp 187) _ rfl _ _ rfl rfl Try.enters16 (HSM.out _ _ _ _ _ _ _ (hr1.belowW hq2) hr2) ?_
  rintro e T11 ⟨rfl, hq3⟩
  have hE3 := hE2.trans (hq3.mono hE2.size)
  have st3 := hS21.out _ hE3
  refine ⟨_, rfl, st3, ?_⟩
  simp only [Act.put, List.setIfInBounds_toArray, List.set_cons_zero, List.set_cons_succ]
  refine take_to 7 189 (.bool true) rfl (by kernel_rfl) (by kernel_rfl) (by kernel_rfl) (fun _ _ _ h => h) rfl (by rfl) (fun w hw => by rfl) st3 ?_
  simp only [Act.put, List.setIfInBounds_toArray, List.set_cons_zero, List.set_cons_succ]
  refine take_to 8 190 (.bool true) rfl (by kernel_rfl) (by kernel_rfl) (by kernel_rfl) (fun _ _ _ h => h) rfl (by rfl) (fun w hw => by rfl) st3 ?_
  simp only [Act.put, List.setIfInBounds_toArray, List.set_cons_zero, List.set_cons_succ]
  refine step_call0_to 9 191 11 rfl (by kernel_rfl) rfl (by rfl) _ rfl Try.enters11 (HAW.out _) ?_
  rintro e T12 ⟨rfl, hq7⟩
  have hE9 := hE3.trans (hq7.mono hE3.size)
  have st9 := hS21.out _ hE9
  refine ⟨_, rfl, st9, ?_⟩
  simp only [Act.put, List.setIfInBounds_toArray, List.set_cons_zero, List.set_cons_succ]
  refine take_to 10 192 (.bool true) rfl (by kernel_rfl) (by kernel_rfl) (by kernel_rfl) (fun _ _ _ h => h) rfl (by rfl) (fun w hw => by rfl) st9 ?_
  simp only [Act.put, List.setIfInBounds_toArray, List.set_cons_zero, List.set_cons_succ]
  refine take_to 11 6 (.bool true) rfl (by kernel_rfl) (by kernel_rfl) (by kernel_rfl) (fun _ _ _ h => h) rfl (by rfl) (fun w hw => by rfl) st9 ?_
  simp only [Act.put, List.setIfInBounds_toArray, List.set_cons_zero, List.set_cons_succ]
  refine wpAnyH_done (by kernel_rfl) ?_ _
  have HBE := hide st9.1.below
  clear st0 st1 st2 st3 st9 hE hE1 hE2 hE3 hE9 hq1 hq2 hq3 hq7 hr1 hr2
  go_wp2
  go_ret
  exact ⟨rfl, HBE.out⟩
set_option maxHeartbeats 1000000 in
set_option maxRecDepth 100000 in
theorem finds_not {w : World} {N : Nd} {vk vv vi kv yv : Value} {K V : List UInt8} (h : NdAt w N vk vv vi) (hf : Fits N) (hk : Sl w kv K) (hy : Sl w yv V) (hs : N.sound = false) :
    Calls Try.prog 6 #[.agg #[.bool N.leaf, vk, vv, vi, .int .i64 N.next], kv, yv] w fun e w' => e = .returned (.bool true) ∧ Below w.heap.size w w' := by
  have HFIT : Hid (∀ W, Below w.heap.size w W → Calls Try.prog 12 #[.agg #[.bool N.leaf, vk, vv, vi, .int .i64 N.next]] W fun e w' => e = .returned (.bool false) ∧ Below W.heap.size W w') := fun W hW => by
    have := lfit_any (h.belowW hW) hf
    rw [hs] at this
    exact this
  have HAW := hide awake_any
  obtain ⟨ak, ck, rfl, _, _⟩ := h.keys.len
  obtain ⟨av, cv, rfl, _, _⟩ := h.vals.len
  obtain ⟨ai, ci, rfl, _, _⟩ := h.kids.len
  obtain ⟨u1, u2, rfl, _, _⟩ := hk.len
  obtain ⟨y1, y2, rfl, _, _⟩ := hy.len
  have HB0 : Hid (Below w.heap.size w (w.alloc (.cells #[.bool N.leaf, .slice ak N.keys.length ck, .slice av N.vals.length cv, .slice ai N.kids.length ci, .int .i64 N.next] 26))) := (Below.refl _ _).alloc (Nat.le_refl _) _
  have HFW := hide (HFIT.out _ HB0.out)
  clear h hf hs HFIT hk hy
  go_enter Try.func6, Try.ntmps6
  go_wp2_with fail
  refine HFW.out.mono ?_
  rintro e W1 ⟨rfl, hb1⟩
  have HB1 := hide (HB0.out.trans (hb1.mono HB0.out.size))
  have HA1 := hide (HAW.out W1)
  clear hb1
  go_wp2_with (go_at_call 11; refine HA1.out.mono ?_; rintro e W2 ⟨rfl, hb2⟩)
  go_ret
  exact ⟨rfl, HB1.out.trans (hb2.mono HB1.out.size)⟩
theorem finds_walk {w : World} {N : Nd} {vk vv vi kv yv : Value} {K V : List UInt8} (h : NdAt w N vk vv vi) (hf : Fits N) (hk : Sl w kv K) (hy : Sl w yv V) (hkl : K.length ≤ 140737488355328) (hyl : V.length ≤ 140737488355328)
    (hrk : (N.keys.length + 1) * 24 ≤ 140737488355328) (hrv : (N.vals.length + 1) * 24 ≤ 140737488355328) :
    Calls Try.prog 6 #[.agg #[.bool N.leaf, vk, vv, vi, .int .i64 N.next], kv, yv] w fun e w' => e = .returned (.bool true) ∧ Below w.heap.size w w' := by
  cases hs : N.sound with
  | false => exact finds_not h hf hk hy hs
  | true =>
    cases hl : N.leaf with
    | false =>
      have := finds_inner h hf hk hy hkl hyl hrk hrv hs hl
      rwa [hl] at this
    | true =>
      cases hh : hasK N.keys K with
      | true =>
        have := finds_has h hf hk hy hkl hyl hrk hrv hs hl hh
        rwa [hl] at this
      | false =>
        have := finds_new h hf hk hy hkl hyl hrk hrv hs hl hh
        rwa [hl] at this
theorem finds_all {w : World} {N : Nd} {vk vv vi kv yv : Value} {K V : List UInt8} (h : NdAt w N vk vv vi) (hf : Fits N ∧ (N.keys.length + 1) * 24 ≤ 140737488355328 ∧ (N.vals.length + 1) * 24 ≤ 140737488355328) (hk : Sl w kv K) (hkl : K.length ≤ 140737488355328) (hy : Sl w yv V) (hyl : V.length ≤ 140737488355328) :
    Calls Try.prog 6 #[.agg #[.bool N.leaf, vk, vv, vi, .int .i64 N.next], kv, yv] w fun e w' => e = .returned (.bool true) ∧ Below w.heap.size w w' := finds_walk h hf.1 hk hy hkl hyl hf.2.1 hf.2.2
end Go.Proofs.Ytjcobejaldfibaa
