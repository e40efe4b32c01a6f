/- The statement that makes two values of two reckonings, whatever its order is. -/
import Derived.Test.YtdhfpfkhhmdfgabReg
import Derived.Test.YtdhfpfkhhmdfgabInv
import Derived.Test.YtdhfpfkhhmdfgabReck
namespace Go.Proofs.Ytdhfpfkhhmdfgab
open Go.RowKit

/- a box of its own, with a value in it -/
def Box (a : Act) (X : World) (B i : Nat) (x y : Int) (z : ByteArray) : Prop := ∃ b, a.eval (.tmp i) = .pointer (some ⟨b, 0, none⟩) ∧ B < b ∧ b < X.heap.size ∧ X.cell? ⟨b, 0, none⟩ = some (.int .i64 (x)) ∧ X.cell? ⟨b, 1, none⟩ = some (.int .i64 (y)) ∧ X.cell? ⟨b, 2, none⟩ = some (.string (z)) ∧ X.frozen? ⟨b, 0, none⟩ = false ∧ X.frozen? ⟨b, 1, none⟩ = false ∧ X.frozen? ⟨b, 2, none⟩ = false
theorem Box.below {a : Act} {X Y : World} {B i : Nat} {x y : Int} {z : ByteArray} (h : Box a X B i x y z) (hb : Below X.heap.size X Y) : Box a Y B i x y z := by
  obtain ⟨b, e, lo, hi, c0, c1, c2, f0, f1, f2⟩ := h
  obtain ⟨-, hf⟩ := bcell hb
  exact ⟨b, e, lo, keepSize hb hi, keepCell hb hi c0, keepCell hb hi c1, keepCell hb hi c2, by rw [hf _ _ hi, f0], by rw [hf _ _ hi, f1], by rw [hf _ _ hi, f2]⟩
theorem Box.put {a : Act} {X : World} {B i j : Nat} {x y : Int} {z : ByteArray} (h : Box a X B i x y z) (hj : ¬ j = i) (v : Value) : Box (a.put (some j) v) X B i x y z := by
  obtain ⟨b, e, r⟩ := h
  exact ⟨b, by rw [eval_put_ne hj, e], r⟩

def set3 (X : World) (b : Nat) (v0 v1 v2 : Value) : World := ((X.setCell ⟨b, 0, none⟩ v0).setCell ⟨b, 1, none⟩ v1).setCell ⟨b, 2, none⟩ v2
theorem Box.far {a : Act} {X : World} {B i : Nat} {x y : Int} {z : ByteArray} (h : Box a X B i x y z) {b : Nat} (hb : ¬ a.eval (.tmp i) = .pointer (some ⟨b, 0, none⟩)) (v0 v1 v2 : Value) : Box a (set3 X b v0 v1 v2) B i x y z := by
  obtain ⟨c, e, lo, hi, c0, c1, c2, f0, f1, f2⟩ := h
  have hne : ¬ c = b := fun h => hb (by rw [e, h])
  refine ⟨c, e, lo, by simpa [set3] using hi, ?_, ?_, ?_, ?_, ?_, ?_⟩ <;> unfold set3 <;> go_simp
theorem Box.at {a : Act} {X : World} {B i : Nat} {x y : Int} {z : ByteArray} {b : Nat} (e : a.eval (.tmp i) = .pointer (some ⟨b, 0, none⟩)) (lo : B < b) (hi : b < X.heap.size) {u0 u1 u2 : Value} (c0 : X.cell? ⟨b, 0, none⟩ = some u0) (c1 : X.cell? ⟨b, 1, none⟩ = some u1) (c2 : X.cell? ⟨b, 2, none⟩ = some u2) (f0 : X.frozen? ⟨b, 0, none⟩ = false) (f1 : X.frozen? ⟨b, 1, none⟩ = false) (f2 : X.frozen? ⟨b, 2, none⟩ = false) : Box a (set3 X b (.int .i64 x) (.int .i64 y) (.string z)) B i x y z := by
  refine ⟨b, e, lo, by simpa [set3] using hi, ?_, ?_, ?_, ?_, ?_, ?_⟩ <;> unfold set3 <;> go_simp
theorem Box.fresh {a : Act} {X : World} {B i : Nat} (hi : i < a.tmps.size) (lo : B < X.heap.size) : Box (a.put (some i) (.pointer (some ⟨X.heap.size, 0, none⟩))) (X.alloc (.cells #[.int .i64 0, .int .i64 0, .string ⟨#[]⟩] 28)) B i 0 0 ⟨#[]⟩ := by
  refine ⟨X.heap.size, eval_put_same hi _, lo, by simp, ?_, ?_, ?_, ?_, ?_, ?_⟩ <;> go_simp
theorem Inv3.set3 {w X : World} {k n : Int} {s : ByteArray} {k' n' : Int} {s' : ByteArray} {k'' n'' : Int} {s'' : ByteArray} (h : Inv3 w X k n s k' n' s' k'' n'' s'') {b : Nat} (v0 v1 v2 : Value) (hb : w.heap.size + 1 + 1 < b) : Inv3 w (set3 X b v0 v1 v2) k n s k' n' s' k'' n'' s'' :=
  ((h.set 0 v0 hb).set 1 v1 hb).set 2 v2 hb

theorem run_loadV {X : World} {A : Nat} {x y : Int} {z : ByteArray} (c0 : X.cell? ⟨A, 0, none⟩ = some (.int .i64 x)) (c1 : X.cell? ⟨A, 1, none⟩ = some (.int .i64 y)) (c2 : X.cell? ⟨A, 2, none⟩ = some (.string z)) (a : Act) (i j : Nat) (t : TypeId) (p : String) (f : Array Edge)
    (he : a.eval (.tmp i) = .pointer (some ⟨A, 0, none⟩)) : (execOp a.eval { dst := some j, op := .load 28 (.tmp i), type := t, pos := p, after := f, guard := none }).run Try.prog X = .ok (.value (.agg #[.int .i64 (x), .int .i64 (y), .string (z)])) X := by
  simp only [execOp, he]
  go_simp
theorem run_allocV (X : World) (a : Act) (j : Nat) (t : TypeId) (p : String) (f : Array Edge) : (execOp a.eval { dst := some j, op := .alloc 28, type := t, pos := p, after := f, guard := none }).run Try.prog X = .ok (.value (.pointer (some ⟨X.heap.size, 0, none⟩))) (X.alloc (.cells #[.int .i64 0, .int .i64 0, .string ⟨#[]⟩] 28)) := by
  simp only [execOp]
  go_simp
theorem run_storeV {X : World} {A : Nat} {v0 v1 v2 : Value} (c0 : X.cell? ⟨A, 0, none⟩ = some v0) (c1 : X.cell? ⟨A, 1, none⟩ = some v1) (c2 : X.cell? ⟨A, 2, none⟩ = some v2) (f0 : X.frozen? ⟨A, 0, none⟩ = false) (f1 : X.frozen? ⟨A, 1, none⟩ = false) (f2 : X.frozen? ⟨A, 2, none⟩ = false)
    (a : Act) (i j : Nat) (t : TypeId) (p : String) (f : Array Edge) {x y : Int} {z : ByteArray} (he : a.eval (.tmp i) = .pointer (some ⟨A, 0, none⟩)) (hv : a.eval (.tmp j) = (.agg #[.int .i64 (x), .int .i64 (y), .string (z)])) :
    (execOp a.eval { dst := none, op := .store 28 (.tmp i) (.tmp j), type := t, pos := p, after := f, guard := none }).run Try.prog X = .ok .skip (((X.setCell ⟨A, 0, none⟩ (.int .i64 x)).setCell ⟨A, 1, none⟩ (.int .i64 y)).setCell ⟨A, 2, none⟩ (.string z)) := by
  simp only [execOp, he, hv]
  go_simp
theorem run_callR (X : World) (a : Act) (c : Int) (i j d : Nat) (t : TypeId) (p : String) (f : Array Edge) {u v : Value} (hu : a.eval (.tmp i) = u) (hv : a.eval (.tmp j) = v) :
    (execOp a.eval { dst := some d, op := .call { callee := .value (.func 18), args := #[.const (.int .i64 c), .tmp i, .tmp j], argTypes := #[3, 28, 28] }, type := t, pos := p, after := f, guard := none }).run Try.prog X = .ok (.enter 18 #[.int .i64 c, u, v]) X := by
  subst hu hv
  simp only [execOp]
  go_simp

def qK (c k n k' n' : Int) : Int := rK (rkk c k n k' n')
def qN (c k n k' n' : Int) : Int := rN (rkk c k n k' n') (rval c n n')

/- what holds behind so much of the statement -/
def I9 (w : World) (k n : Int) (s : ByteArray) (k' n' : Int) (s' : ByteArray) (k'' n'' : Int) (s'' : ByteArray) (a0 : Act) (L : Nat → Bool) (a : Act) (X : World) : Prop :=
  Fr [11, 12, 117, 118, 119, 120, 121, 122] a0 a ∧ Inv3 w X k n s k' n' s' k'' n'' s'' ∧
  (L 0 = true → a.eval (.tmp 117) = (.agg #[.int .i64 (k), .int .i64 (n), .string (s)])) ∧ (L 1 = true → a.eval (.tmp 118) = (.agg #[.int .i64 (k'), .int .i64 (n'), .string (s')])) ∧ (L 2 = true → a.eval (.tmp 119) = (.agg #[.int .i64 (qK 8 k n k' n'), .int .i64 (qN 8 k n k' n'), .string (⟨#[]⟩)])) ∧
  (L 3 = true → a.eval (.tmp 120) = (.agg #[.int .i64 (k), .int .i64 (n), .string (s)])) ∧ (L 4 = true → a.eval (.tmp 121) = (.agg #[.int .i64 (k'), .int .i64 (n'), .string (s')])) ∧ (L 5 = true → a.eval (.tmp 122) = (.agg #[.int .i64 (qK 9 k n k' n'), .int .i64 (qN 9 k n k' n'), .string (⟨#[]⟩)])) ∧
  (L 6 = true → L 8 = false → Box a X (w.heap.size + 1 + 1) 11 0 0 ⟨#[]⟩) ∧ (L 8 = true → Box a X (w.heap.size + 1 + 1) 11 (qK 8 k n k' n') (qN 8 k n k' n') ⟨#[]⟩) ∧
  (L 7 = true → L 9 = false → Box a X (w.heap.size + 1 + 1) 12 0 0 ⟨#[]⟩) ∧ (L 9 = true → Box a X (w.heap.size + 1 + 1) 12 (qK 9 k n k' n') (qN 9 k n k' n') ⟨#[]⟩) ∧
  (L 6 = true → L 7 = true → ¬ a.eval (.tmp 11) = a.eval (.tmp 12)) ∧ (L 8 = true → L 6 = true) ∧ (L 9 = true → L 7 = true)

set_option maxHeartbeats 1000000 in
theorem reg9 {Q : Exit → Act → World → Prop} {ops : Array Oper} {id : Nat} {a0 : Act} {wc w : World} {k n : Int} {s : ByteArray} {k' n' : Int} {s' : ByteArray} {k'' n'' : Int} {s'' : ByteArray}
    (hx : fits n = true) (hy : fits n' = true) (hi : Inv3 w wc k n s k' n' s' k'' n'' s'') (hsz : 142 < a0.tmps.size) (e3 : a0.eval (.tmp 3) = .pointer (some ⟨w.heap.size, 0, none⟩)) (e4 : a0.eval (.tmp 4) = .pointer (some ⟨w.heap.size + 1, 0, none⟩))
    {t0 t1 t2 t3 t4 t5 t6 t7 t8 t9 : TypeId} {p0 p1 p2 p3 p4 p5 p6 p7 p8 p9 : String} {f0 f1 f2 f3 f4 f5 f6 f7 f8 f9 : Array Edge}
    (hops : ops = #[⟨some 117, .load 28 (.tmp 3), t0, p0, f0, none⟩, ⟨some 118, .load 28 (.tmp 4), t1, p1, f1, none⟩,
      ⟨some 119, .call { callee := .value (.func 18), args := #[.const (.int .i64 8), .tmp 117, .tmp 118], argTypes := #[3, 28, 28] }, t2, p2, f2, none⟩,
      ⟨some 120, .load 28 (.tmp 3), t3, p3, f3, none⟩, ⟨some 121, .load 28 (.tmp 4), t4, p4, f4, none⟩,
      ⟨some 122, .call { callee := .value (.func 18), args := #[.const (.int .i64 9), .tmp 120, .tmp 121], argTypes := #[3, 28, 28] }, t5, p5, f5, none⟩,
      ⟨some 11, .alloc 28, t6, p6, f6, none⟩, ⟨some 12, .alloc 28, t7, p7, f7, none⟩, ⟨none, .store 28 (.tmp 11) (.tmp 119), t8, p8, f8, none⟩, ⟨none, .store 28 (.tmp 12) (.tmp 122), t9, p9, f9, none⟩])
    (hb : backB ops = true) (d2 : depB f2 [0, 1] = true) (d5 : depB f5 [3, 4] = true) (d8 : depB f8 [2, 6] = true) (d9 : depB f9 [5, 7] = true) (hm : Try.prog.follows .mixedOrders = true)
    (hQ : ∀ b1 b2 X, w.heap.size + 1 + 1 < b1 → b1 < X.heap.size → X.cell? ⟨b1, 0, none⟩ = some (.int .i64 (qK 8 k n k' n')) ∧ X.cell? ⟨b1, 1, none⟩ = some (.int .i64 (qN 8 k n k' n')) ∧ X.cell? ⟨b1, 2, none⟩ = some (.string (⟨#[]⟩)) → w.heap.size + 1 + 1 < b2 → b2 < X.heap.size → X.cell? ⟨b2, 0, none⟩ = some (.int .i64 (qK 9 k n k' n')) ∧ X.cell? ⟨b2, 1, none⟩ = some (.int .i64 (qN 9 k n k' n')) ∧ X.cell? ⟨b2, 2, none⟩ = some (.string (⟨#[]⟩)) → Inv3 w X k n s k' n' s' k'' n'' s'' →
      Q .normal ⟨sets [(11, .pointer (some ⟨b1, 0, none⟩)), (12, .pointer (some ⟨b2, 0, none⟩)), (117, (.agg #[.int .i64 (k), .int .i64 (n), .string (s)])), (118, (.agg #[.int .i64 (k'), .int .i64 (n'), .string (s')])), (119, (.agg #[.int .i64 (qK 8 k n k' n'), .int .i64 (qN 8 k n k' n'), .string (⟨#[]⟩)])), (120, (.agg #[.int .i64 (k), .int .i64 (n), .string (s)])), (121, (.agg #[.int .i64 (k'), .int .i64 (n'), .string (s')])), (122, (.agg #[.int .i64 (qK 9 k n k' n'), .int .i64 (qN 9 k n k' n'), .string (⟨#[]⟩)]))] a0.tmps, a0.defers⟩ X) :
    (Code.region id ops true).wp Try.prog Q a0 wc := by
  refine wp_region_inv hm (I9 w k n s k' n' s' k'' n'' s'') (backB_spec hb) ?_ ?_ ?_
  · refine ⟨Fr.refl _ _, hi.drew, ?_, ?_, ?_, ?_, ?_, ?_, ?_, ?_, ?_, ?_, ?_, ?_, ?_⟩ <;> intro h <;> exact absurd h (by decide)
  · intro L a X hI i o ho hL hd
    obtain ⟨hF, hv, g0, g1, g2, g3, g4, g5, g6, g8, g7, g9, hne, m8, m9⟩ := hI
    have hs : a.tmps.size = a0.tmps.size := hF.2.1
    have E3 : a.eval (.tmp 3) = .pointer (some ⟨w.heap.size, 0, none⟩) := by rw [hF.eval (by decide), e3]
    have E4 : a.eval (.tmp 4) = .pointer (some ⟨w.heap.size + 1, 0, none⟩) := by rw [hF.eval (by decide), e4]
    obtain ⟨z0, z1, z2, a0', a1, a2, b0, b1, b2, c0, c1, c2⟩ := hv.out
    subst hops
    obtain _ | _ | _ | _ | _ | _ | _ | _ | _ | _ | i := i
    · cases ho
      refine wpOp_value rfl rfl (run_loadV a0' a1 a2 a 3 117 _ _ _ E3) ?_
      show I9 w k n s k' n' s' k'' n'' s'' a0 (upd L 0) (a.put (some 117) _) _
      exact ⟨hF.put (by decide) _, hv, fun _ => eval_put_same (by omega) _, fun h => by rw [eval_put_ne (by decide)]; exact g1 h, fun h => by rw [eval_put_ne (by decide)]; exact g2 h, fun h => by rw [eval_put_ne (by decide)]; exact g3 h, fun h => by rw [eval_put_ne (by decide)]; exact g4 h, fun h => by rw [eval_put_ne (by decide)]; exact g5 h, fun h h' => (g6 h h').put (by decide) _, fun h => (g8 h).put (by decide) _, fun h h' => (g7 h h').put (by decide) _, fun h => (g9 h).put (by decide) _, fun h h' => by rw [eval_put_ne (by decide), eval_put_ne (by decide)]; exact hne h h', fun h => m8 h, fun h => m9 h⟩
    · cases ho
      refine wpOp_value rfl rfl (run_loadV b0 b1 b2 a 4 118 _ _ _ E4) ?_
      show I9 w k n s k' n' s' k'' n'' s'' a0 (upd L 1) (a.put (some 118) _) _
      exact ⟨hF.put (by decide) _, hv, fun h => by rw [eval_put_ne (by decide)]; exact g0 h, fun _ => eval_put_same (by omega) _, fun h => by rw [eval_put_ne (by decide)]; exact g2 h, fun h => by rw [eval_put_ne (by decide)]; exact g3 h, fun h => by rw [eval_put_ne (by decide)]; exact g4 h, fun h => by rw [eval_put_ne (by decide)]; exact g5 h, fun h h' => (g6 h h').put (by decide) _, fun h => (g8 h).put (by decide) _, fun h h' => (g7 h h').put (by decide) _, fun h => (g9 h).put (by decide) _, fun h h' => by rw [eval_put_ne (by decide), eval_put_ne (by decide)]; exact hne h h', fun h => m8 h, fun h => m9 h⟩
    · cases ho
      have hdj := depB_spec d2 hd
      have u := g0 (hdj 0 (by decide))
      have v := g1 (hdj 1 (by decide))
      refine wpOp_call (R := fun r X' => r = (.agg #[.int .i64 (qK 8 k n k' n'), .int .i64 (qN 8 k n k' n'), .string (⟨#[]⟩)]) ∧ Below X.heap.size X X') rfl rfl (run_callR X a 8 117 118 119 _ _ _ u v) ((vreckon 8 k k' n n' s s' X hx hy).mono fun e X' h => ⟨_, h.1, rfl, h.2⟩) ?_
      rintro r X' ⟨rfl, hb'⟩
      show I9 w k n s k' n' s' k'' n'' s'' a0 (upd L 2) (a.put (some 119) _) _
      exact ⟨hF.put (by decide) _, hv.step hb', fun h => by rw [eval_put_ne (by decide)]; exact g0 h, fun h => by rw [eval_put_ne (by decide)]; exact g1 h, fun _ => eval_put_same (by omega) _, fun h => by rw [eval_put_ne (by decide)]; exact g3 h, fun h => by rw [eval_put_ne (by decide)]; exact g4 h, fun h => by rw [eval_put_ne (by decide)]; exact g5 h, fun h h' => ((g6 h h').below hb').put (by decide) _, fun h => ((g8 h).below hb').put (by decide) _, fun h h' => ((g7 h h').below hb').put (by decide) _, fun h => ((g9 h).below hb').put (by decide) _, fun h h' => by rw [eval_put_ne (by decide), eval_put_ne (by decide)]; exact hne h h', fun h => m8 h, fun h => m9 h⟩
    · cases ho
      refine wpOp_value rfl rfl (run_loadV a0' a1 a2 a 3 120 _ _ _ E3) ?_
      show I9 w k n s k' n' s' k'' n'' s'' a0 (upd L 3) (a.put (some 120) _) _
      exact ⟨hF.put (by decide) _, hv, fun h => by rw [eval_put_ne (by decide)]; exact g0 h, fun h => by rw [eval_put_ne (by decide)]; exact g1 h, fun h => by rw [eval_put_ne (by decide)]; exact g2 h, fun _ => eval_put_same (by omega) _, fun h => by rw [eval_put_ne (by decide)]; exact g4 h, fun h => by rw [eval_put_ne (by decide)]; exact g5 h, fun h h' => (g6 h h').put (by decide) _, fun h => (g8 h).put (by decide) _, fun h h' => (g7 h h').put (by decide) _, fun h => (g9 h).put (by decide) _, fun h h' => by rw [eval_put_ne (by decide), eval_put_ne (by decide)]; exact hne h h', fun h => m8 h, fun h => m9 h⟩
    · cases ho
      refine wpOp_value rfl rfl (run_loadV b0 b1 b2 a 4 121 _ _ _ E4) ?_
      show I9 w k n s k' n' s' k'' n'' s'' a0 (upd L 4) (a.put (some 121) _) _
      exact ⟨hF.put (by decide) _, hv, fun h => by rw [eval_put_ne (by decide)]; exact g0 h, fun h => by rw [eval_put_ne (by decide)]; exact g1 h, fun h => by rw [eval_put_ne (by decide)]; exact g2 h, fun h => by rw [eval_put_ne (by decide)]; exact g3 h, fun _ => eval_put_same (by omega) _, fun h => by rw [eval_put_ne (by decide)]; exact g5 h, fun h h' => (g6 h h').put (by decide) _, fun h => (g8 h).put (by decide) _, fun h h' => (g7 h h').put (by decide) _, fun h => (g9 h).put (by decide) _, fun h h' => by rw [eval_put_ne (by decide), eval_put_ne (by decide)]; exact hne h h', fun h => m8 h, fun h => m9 h⟩
    · cases ho
      have hdj := depB_spec d5 hd
      have u := g3 (hdj 3 (by decide))
      have v := g4 (hdj 4 (by decide))
      refine wpOp_call (R := fun r X' => r = (.agg #[.int .i64 (qK 9 k n k' n'), .int .i64 (qN 9 k n k' n'), .string (⟨#[]⟩)]) ∧ Below X.heap.size X X') rfl rfl (run_callR X a 9 120 121 122 _ _ _ u v) ((vreckon 9 k k' n n' s s' X hx hy).mono fun e X' h => ⟨_, h.1, rfl, h.2⟩) ?_
      rintro r X' ⟨rfl, hb'⟩
      show I9 w k n s k' n' s' k'' n'' s'' a0 (upd L 5) (a.put (some 122) _) _
      exact ⟨hF.put (by decide) _, hv.step hb', fun h => by rw [eval_put_ne (by decide)]; exact g0 h, fun h => by rw [eval_put_ne (by decide)]; exact g1 h, fun h => by rw [eval_put_ne (by decide)]; exact g2 h, fun h => by rw [eval_put_ne (by decide)]; exact g3 h, fun h => by rw [eval_put_ne (by decide)]; exact g4 h, fun _ => eval_put_same (by omega) _, fun h h' => ((g6 h h').below hb').put (by decide) _, fun h => ((g8 h).below hb').put (by decide) _, fun h h' => ((g7 h h').below hb').put (by decide) _, fun h => ((g9 h).below hb').put (by decide) _, fun h h' => by rw [eval_put_ne (by decide), eval_put_ne (by decide)]; exact hne h h', fun h => m8 h, fun h => m9 h⟩
    · cases ho
      have hb' : Below X.heap.size X (X.alloc (.cells #[.int .i64 0, .int .i64 0, .string ⟨#[]⟩] 28)) := (Below.refl _ _).alloc (Nat.le_refl _) _
      have hno : L 8 = true → False := fun h => by rw [m8 h] at hL; cases hL
      refine wpOp_value rfl rfl (run_allocV X a 11 _ _ _) ?_
      have hob : L 7 = true → ∃ b, a.eval (.tmp 12) = .pointer (some ⟨b, 0, none⟩) ∧ b < X.heap.size := fun h => by
        cases h9 : L 9 with
        | true => obtain ⟨b, e, -, hlt, -⟩ := g9 h9; exact ⟨b, e, hlt⟩
        | false => obtain ⟨b, e, -, hlt, -⟩ := g7 h h9; exact ⟨b, e, hlt⟩
      show I9 w k n s k' n' s' k'' n'' s'' a0 (upd L 6) (a.put (some 11) _) _
      exact ⟨hF.put (by decide) _, hv.alloc _, fun h => by rw [eval_put_ne (by decide)]; exact g0 h, fun h => by rw [eval_put_ne (by decide)]; exact g1 h, fun h => by rw [eval_put_ne (by decide)]; exact g2 h, fun h => by rw [eval_put_ne (by decide)]; exact g3 h, fun h => by rw [eval_put_ne (by decide)]; exact g4 h, fun h => by rw [eval_put_ne (by decide)]; exact g5 h, fun _ _ => Box.fresh (by omega) z2, fun h => (hno h).elim, fun h h' => ((g7 h h').below hb').put (by decide) _, fun h => ((g9 h).below hb').put (by decide) _, fun _ h => by obtain ⟨b, e, hlt⟩ := hob h; rw [eval_put_same (by omega), eval_put_ne (by decide), e]; intro q; injection q with q; injection q with q; injection q with q; omega, fun _ => rfl, fun h => m9 h⟩
    · cases ho
      have hb' : Below X.heap.size X (X.alloc (.cells #[.int .i64 0, .int .i64 0, .string ⟨#[]⟩] 28)) := (Below.refl _ _).alloc (Nat.le_refl _) _
      have hno : L 9 = true → False := fun h => by rw [m9 h] at hL; cases hL
      refine wpOp_value rfl rfl (run_allocV X a 12 _ _ _) ?_
      have hob : L 6 = true → ∃ b, a.eval (.tmp 11) = .pointer (some ⟨b, 0, none⟩) ∧ b < X.heap.size := fun h => by
        cases h9 : L 8 with
        | true => obtain ⟨b, e, -, hlt, -⟩ := g8 h9; exact ⟨b, e, hlt⟩
        | false => obtain ⟨b, e, -, hlt, -⟩ := g6 h h9; exact ⟨b, e, hlt⟩
      show I9 w k n s k' n' s' k'' n'' s'' a0 (upd L 7) (a.put (some 12) _) _
      exact ⟨hF.put (by decide) _, hv.alloc _, fun h => by rw [eval_put_ne (by decide)]; exact g0 h, fun h => by rw [eval_put_ne (by decide)]; exact g1 h, fun h => by rw [eval_put_ne (by decide)]; exact g2 h, fun h => by rw [eval_put_ne (by decide)]; exact g3 h, fun h => by rw [eval_put_ne (by decide)]; exact g4 h, fun h => by rw [eval_put_ne (by decide)]; exact g5 h, fun h h' => ((g6 h h').below hb').put (by decide) _, fun h => ((g8 h).below hb').put (by decide) _, fun _ _ => Box.fresh (by omega) z2, fun h => (hno h).elim, fun h _ => by obtain ⟨b, e, hlt⟩ := hob h; rw [eval_put_ne (by decide), eval_put_same (by omega), e]; intro q; injection q with q; injection q with q; injection q with q; omega, fun h => m8 h, fun _ => rfl⟩
    · cases ho
      have hdj := depB_spec d8 hd
      have h6 := hdj 6 (by decide)
      have u := g2 (hdj 2 (by decide))
      obtain ⟨b, e, lo, hlt, y0, y1, y2, k0, k1, k2⟩ := g6 h6 hL
      have hfar : L 7 = true → ¬ a.eval (.tmp 12) = .pointer (some ⟨b, 0, none⟩) := fun h q => hne h6 h (by rw [e, q])
      refine wpOp_skip rfl rfl (run_storeV y0 y1 y2 k0 k1 k2 a 11 119 _ _ _ e u) ?_
      show I9 w k n s k' n' s' k'' n'' s'' a0 (upd L 8) (a.put none _) _
      exact ⟨hF, hv.set3 _ _ _ lo, fun h => g0 h, fun h => g1 h, fun h => g2 h, fun h => g3 h, fun h => g4 h, fun h => g5 h, (fun _ h => (by cases h)), fun _ => Box.at e lo hlt y0 y1 y2 k0 k1 k2, fun h h' => (g7 h h').far (hfar h) _ _ _, fun h => (g9 h).far (hfar (m9 h)) _ _ _, fun h h' => hne h h', fun _ => h6, fun h => m9 h⟩
    · cases ho
      have hdj := depB_spec d9 hd
      have h7 := hdj 7 (by decide)
      have u := g5 (hdj 5 (by decide))
      obtain ⟨b, e, lo, hlt, y0, y1, y2, k0, k1, k2⟩ := g7 h7 hL
      have hfar : L 6 = true → ¬ a.eval (.tmp 11) = .pointer (some ⟨b, 0, none⟩) := fun h q => hne h h7 (by rw [e, q])
      refine wpOp_skip rfl rfl (run_storeV y0 y1 y2 k0 k1 k2 a 12 122 _ _ _ e u) ?_
      show I9 w k n s k' n' s' k'' n'' s'' a0 (upd L 9) (a.put none _) _
      exact ⟨hF, hv.set3 _ _ _ lo, fun h => g0 h, fun h => g1 h, fun h => g2 h, fun h => g3 h, fun h => g4 h, fun h => g5 h, fun h h' => (g6 h h').far (hfar h) _ _ _, fun h => (g8 h).far (hfar (m8 h)) _ _ _, (fun _ h => (by cases h)), fun _ => Box.at e lo hlt y0 y1 y2 k0 k1 k2, fun h h' => hne h h', fun h => m8 h, fun _ => h7⟩
    · cases ho
  · intro L a X hI hall
    obtain ⟨hF, hv, g0, g1, g2, g3, g4, g5, g6, g8, g7, g9, hne, m8, m9⟩ := hI
    have hs : a.tmps.size = a0.tmps.size := hF.2.1
    have hall' : ∀ i, i < 10 → L i = true := fun i h => hall i (by rw [hops]; exact h)
    obtain ⟨q1, x1, lo1, hi1, c10, c11, c12, -⟩ := g8 (hall' 8 (by decide))
    obtain ⟨q2, x2, lo2, hi2, c20, c21, c22, -⟩ := g9 (hall' 9 (by decide))
    rw [hF.eq [(11, .pointer (some ⟨q1, 0, none⟩)), (12, .pointer (some ⟨q2, 0, none⟩)), (117, (.agg #[.int .i64 (k), .int .i64 (n), .string (s)])), (118, (.agg #[.int .i64 (k'), .int .i64 (n'), .string (s')])), (119, (.agg #[.int .i64 (qK 8 k n k' n'), .int .i64 (qN 8 k n k' n'), .string (⟨#[]⟩)])), (120, (.agg #[.int .i64 (k), .int .i64 (n), .string (s)])), (121, (.agg #[.int .i64 (k'), .int .i64 (n'), .string (s')])), (122, (.agg #[.int .i64 (qK 9 k n k' n'), .int .i64 (qN 9 k n k' n'), .string (⟨#[]⟩)]))] (fun _ h => h) ?_]
    · exact hQ q1 q2 X lo1 hi1 ⟨c10, c11, c12⟩ lo2 hi2 ⟨c20, c21, c22⟩ hv
    · intro p hp
      simp only [List.mem_cons, List.not_mem_nil, or_false] at hp
      rcases hp with rfl | rfl | rfl | rfl | rfl | rfl | rfl | rfl
      · exact ⟨by omega, x1⟩
      · exact ⟨by omega, x2⟩
      · exact ⟨by omega, g0 (hall' 0 (by decide))⟩
      · exact ⟨by omega, g1 (hall' 1 (by decide))⟩
      · exact ⟨by omega, g2 (hall' 2 (by decide))⟩
      · exact ⟨by omega, g3 (hall' 3 (by decide))⟩
      · exact ⟨by omega, g4 (hall' 4 (by decide))⟩
      · exact ⟨by omega, g5 (hall' 5 (by decide))⟩
end Go.Proofs.Ytdhfpfkhhmdfgab
