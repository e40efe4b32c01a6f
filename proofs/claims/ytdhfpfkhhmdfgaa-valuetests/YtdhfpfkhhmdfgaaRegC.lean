/- The contracts of relstoreref.Both and Either: the truths of three kinds by a table. -/
import Derived.Test.YtdhfpfkhhmdfgaaRegB
namespace Go.Proofs.Ytdhfpfkhhmdfgaa
open Go.RowKit
attribute [local go_sem ↓] Go.wp_at_zero Go.wp_at_succ

def I2b (w X : World) (k n : Int) (s : ByteArray) (k' n' : Int) (s' : ByteArray) : Prop := X.cell? ⟨w.heap.size, 0, none⟩ = some (.int .i64 (k)) ∧ X.cell? ⟨w.heap.size, 1, none⟩ = some (.int .i64 (n)) ∧ X.cell? ⟨w.heap.size, 2, none⟩ = some (.string (s)) ∧ X.cell? ⟨w.heap.size + 1, 0, none⟩ = some (.int .i64 (k')) ∧ X.cell? ⟨w.heap.size + 1, 1, none⟩ = some (.int .i64 (n')) ∧ X.cell? ⟨w.heap.size + 1, 2, none⟩ = some (.string (s')) ∧ X.cell? ⟨w.heap.size + 1 + 1, 0, none⟩ = some (.int .i64 (0)) ∧ X.cell? ⟨w.heap.size + 1 + 1, 1, none⟩ = some (.int .i64 (0)) ∧ X.cell? ⟨w.heap.size + 1 + 1, 2, none⟩ = some (.string (⟨#[]⟩)) ∧ X.frozen? ⟨w.heap.size + 1 + 1, 0, none⟩ = false ∧ X.frozen? ⟨w.heap.size + 1 + 1, 1, none⟩ = false ∧ X.frozen? ⟨w.heap.size + 1 + 1, 2, none⟩ = false ∧ Below w.heap.size w X ∧ w.heap.size + 1 + 1 < X.heap.size
theorem I2b.step {w X Y : World} {k n : Int} {s : ByteArray} {k' n' : Int} {s' : ByteArray} (h : I2b w X k n s k' n' s') (hb : Below X.heap.size X Y) : I2b w Y k n s k' n' s' := by
  obtain ⟨a0, a1, a2, b0, b1, b2, c0, c1, c2, f0, f1, f2, hB, z⟩ := h
  have za : w.heap.size < X.heap.size := by omega
  have zb : w.heap.size + 1 < X.heap.size := by omega
  exact ⟨keepCell hb za a0, keepCell hb za a1, keepCell hb za a2, keepCell hb zb b0, keepCell hb zb b1, keepCell hb zb b2, keepCell hb z c0, keepCell hb z c1, keepCell hb z c2, keepFz hb z f0, keepFz hb z f1, keepFz hb z f2, keepBelow hB hb, keepSize hb z⟩

def Wk (w : World) (k n : Int) (s : ByteArray) (k' n' : Int) (s' : ByteArray) (i j : Nat) (m : Nat → Nat → Int) (L : Nat → Bool) (a : Act) (X : World) : Prop :=
  I2b w X k n s k' n' s' ∧
  (L 0 = true → ∃ b, a.eval (.tmp 5) = .slice (some ⟨b, 0, none⟩) 3 3 ∧ Row3 X b (m 0)) ∧
  (L 1 = true → ∃ b, a.eval (.tmp 6) = .slice (some ⟨b, 0, none⟩) 3 3 ∧ Row3 X b (m 1)) ∧
  (L 2 = true → ∃ b, a.eval (.tmp 7) = .slice (some ⟨b, 0, none⟩) 3 3 ∧ Row3 X b (m 2)) ∧
  (L 3 = true → ∃ b, a.eval (.tmp 8) = .slice (some ⟨b, 0, none⟩) 3 3 ∧ Tab3 X b m) ∧
  (L 4 = true → a.eval (.tmp 9) = (.agg #[.int .i64 (k), .int .i64 (n), .string (s)])) ∧ (L 5 = true → a.eval (.tmp 10) = .int .i64 i) ∧
  (L 6 = true → ∃ b, a.eval (.tmp 11) = .pointer (some ⟨b, i, none⟩) ∧ Tab3 X b m) ∧
  (L 7 = true → ∃ b, a.eval (.tmp 12) = .slice (some ⟨b, 0, none⟩) 3 3 ∧ Row3 X b (m i)) ∧
  (L 8 = true → a.eval (.tmp 13) = (.agg #[.int .i64 (k'), .int .i64 (n'), .string (s')])) ∧ (L 9 = true → a.eval (.tmp 14) = .int .i64 j) ∧
  (L 10 = true → ∃ b, a.eval (.tmp 15) = .pointer (some ⟨b, j, none⟩) ∧ Row3 X b (m i)) ∧
  (L 11 = true → a.eval (.tmp 16) = .int .i64 (m i j)) ∧ (L 12 = true → a.eval (.tmp 17) = (.agg #[.int .i64 (tk (m i j)), .int .i64 (tn (m i j)), .string (⟨#[]⟩)]))
def IB (w : World) (k n : Int) (s : ByteArray) (k' n' : Int) (s' : ByteArray) (i j : Nat) (m : Nat → Nat → Int) (a0 : Act) (L : Nat → Bool) (a : Act) (X : World) : Prop :=
  Fr [5, 6, 7, 8, 9, 10, 11, 12, 13, 14, 15, 16, 17] a0 a ∧ (L 13 = true → ∀ q, q < 13 → L q = true) ∧ (L 13 = true → X.cell? ⟨w.heap.size + 1 + 1, 0, none⟩ = some (.int .i64 (tk (m i j))) ∧ X.cell? ⟨w.heap.size + 1 + 1, 1, none⟩ = some (.int .i64 (tn (m i j))) ∧ X.cell? ⟨w.heap.size + 1 + 1, 2, none⟩ = some (.string (⟨#[]⟩)) ∧ Below w.heap.size w X) ∧ (L 13 = false → Wk w k n s k' n' s' i j m L a X)

set_option maxHeartbeats 2000000 in
theorem regB {Q : Exit → Act → World → Prop} {ops : Array Oper} {id : Nat} {a0 : Act} {wc w : World} {k n : Int} {s : ByteArray} {k' n' : Int} {s' : ByteArray} (i j : Nat) (hi3 : i < 3) (hj3 : j < 3) (ht : th k n = i) (ht' : th k' n' = j) (m : Nat → Nat → Int) (hm3 : m i j = 0 ∨ m i j = 1 ∨ m i j = 2)
    (hi : I2b w wc k n s k' n' s') (hsz : 17 < a0.tmps.size) (e2 : a0.eval (.tmp 2) = .pointer (some ⟨w.heap.size, 0, none⟩)) (e3 : a0.eval (.tmp 3) = .pointer (some ⟨w.heap.size + 1, 0, none⟩)) (e4 : a0.eval (.tmp 4) = .pointer (some ⟨w.heap.size + 1 + 1, 0, none⟩))
    {t0 t1 t2 t3 t4 t5 t6 t7 t8 t9 t10 t11 t12 t13 : TypeId} {p0 p1 p2 p3 p4 p5 p6 p7 p8 p9 p10 p11 p12 p13 : String} {f0 f1 f2 f3 f4 f5 f6 f7 f8 f9 f10 f11 f12 f13 : Array Edge}
    (hops : ops = #[⟨some 5, .buildSlice 60 3 #[(0, .const (.int .i64 (m 0 0))), (1, .const (.int .i64 (m 0 1))), (2, .const (.int .i64 (m 0 2)))], t0, p0, f0, none⟩,
      ⟨some 6, .buildSlice 60 3 #[(0, .const (.int .i64 (m 1 0))), (1, .const (.int .i64 (m 1 1))), (2, .const (.int .i64 (m 1 2)))], t1, p1, f1, none⟩,
      ⟨some 7, .buildSlice 60 3 #[(0, .const (.int .i64 (m 2 0))), (1, .const (.int .i64 (m 2 1))), (2, .const (.int .i64 (m 2 2)))], t2, p2, f2, none⟩,
      ⟨some 8, .buildSlice 61 3 #[(0, .tmp 5), (1, .tmp 6), (2, .tmp 7)], t3, p3, f3, none⟩,
      ⟨some 9, .load 23 (.tmp 2), t4, p4, f4, none⟩,
      ⟨some 10, .call { callee := .value (.func 57), args := #[.tmp 9], argTypes := #[23] }, t5, p5, f5, none⟩,
      ⟨some 11, .indexAddr 61 (.tmp 8) (.tmp 10), t6, p6, f6, none⟩, ⟨some 12, .load 60 (.tmp 11), t7, p7, f7, none⟩,
      ⟨some 13, .load 23 (.tmp 3), t8, p8, f8, none⟩,
      ⟨some 14, .call { callee := .value (.func 57), args := #[.tmp 13], argTypes := #[23] }, t9, p9, f9, none⟩,
      ⟨some 15, .indexAddr 60 (.tmp 12) (.tmp 14), t10, p10, f10, none⟩, ⟨some 16, .load 3 (.tmp 15), t11, p11, f11, none⟩,
      ⟨some 17, .call { callee := .value (.func 56), args := #[.tmp 16], argTypes := #[3] }, t12, p12, f12, none⟩,
      ⟨none, .store 23 (.tmp 4) (.tmp 17), t13, p13, f13, none⟩])
    (hb : backB ops = true) (d3 : depB f3 [0, 1, 2] = true) (d5 : depB f5 [4] = true) (d6 : depB f6 [3, 5] = true) (d7 : depB f7 [6] = true) (d9 : depB f9 [8] = true) (d10 : depB f10 [7, 9] = true) (d11 : depB f11 [10] = true) (d12 : depB f12 [11] = true) (d13 : depB f13 [0, 1, 2, 3, 4, 5, 6, 7, 8, 9, 10, 11, 12] = true) (hm : Try.prog.follows .mixedOrders = true)
    (hQ : ∀ (u5 u6 u7 u8 u9 u10 u11 u12 u13 u14 u15 u16 u17 : Value) X, X.cell? ⟨w.heap.size + 1 + 1, 0, none⟩ = some (.int .i64 (tk (m i j))) ∧ X.cell? ⟨w.heap.size + 1 + 1, 1, none⟩ = some (.int .i64 (tn (m i j))) ∧ X.cell? ⟨w.heap.size + 1 + 1, 2, none⟩ = some (.string (⟨#[]⟩)) → Below w.heap.size w X →
      Q .normal ⟨sets [(5, u5), (6, u6), (7, u7), (8, u8), (9, u9), (10, u10), (11, u11), (12, u12), (13, u13), (14, u14), (15, u15), (16, u16), (17, u17)] a0.tmps, a0.defers⟩ X) :
    (Code.region id ops true).wp Try.prog Q a0 wc := by
  refine wp_region_inv hm (IB w k n s k' n' s' i j m) (backB_spec hb) ?_ ?_ ?_
  · refine ⟨Fr.refl _ _, fun h => absurd h (by decide), fun h => absurd h (by decide), fun _ => ⟨hi.step (Below.refl _ _).drew, ?_⟩⟩
    refine ⟨?_, ?_, ?_, ?_, ?_, ?_, ?_, ?_, ?_, ?_, ?_, ?_, ?_⟩ <;> intro h <;> exact absurd h (by decide)
  · intro L a X hI q o ho hL hd
    obtain ⟨hF, hA, -, hW⟩ := hI
    have hs : a.tmps.size = a0.tmps.size := hF.2.1
    have E2 : a.eval (.tmp 2) = .pointer (some ⟨w.heap.size, 0, none⟩) := by rw [hF.eval (by decide), e2]
    have E3 : a.eval (.tmp 3) = .pointer (some ⟨w.heap.size + 1, 0, none⟩) := by rw [hF.eval (by decide), e3]
    have E4 : a.eval (.tmp 4) = .pointer (some ⟨w.heap.size + 1 + 1, 0, none⟩) := by rw [hF.eval (by decide), e4]
    have h13 : L 13 = false := by
      cases h : L 13 with
      | false => rfl
      | true =>
        by_cases e : q = 13
        · rw [e, h] at hL; cases hL
        · subst hops
          have hq : q < 14 := (Array.getElem?_eq_some_iff.1 ho).1
          rw [hA h q (by omega)] at hL; cases hL
    have hno : L 13 = true → False := fun h => by rw [h13] at h; cases h
    obtain ⟨hv, g0, g1, g2, g3, g4, g5, g6, g7, g8, g9, g10, g11, g12⟩ := hW h13
    clear hW hA
    have hvv := hv
    obtain ⟨a0', a1, a2, b0, b1, b2, c0, c1, c2, z0, z1, z2, hB, zc⟩ := hvv
    subst hops
    obtain _ | _ | _ | _ | _ | _ | _ | _ | _ | _ | _ | _ | _ | _ | q := q
    · cases ho
      have hb' : Below X.heap.size X (X.alloc (.cells #[.int .i64 (m 0 0), .int .i64 (m 0 1), .int .i64 (m 0 2)] 3)) := (Below.refl _ _).alloc (Nat.le_refl _) _
      refine wpOp_value rfl rfl (run_row X a (m 0 0) (m 0 1) (m 0 2) 5 _ _ _) ?_
      show IB w k n s k' n' s' i j m a0 (upd L 0) (a.put (some 5) _) _
      exact ⟨hF.put (by decide) _, fun h => (hno h).elim, fun h => (hno h).elim, fun _ => ⟨hv.step hb', (fun _ => ⟨X.heap.size, eval_put_same (by omega) _, by simp, by go_simp, by go_simp, by go_simp⟩), (fun h => by obtain ⟨b, e, r⟩ := g1 h; exact ⟨b, by rw [eval_put_ne (by decide)]; exact e, r.below hb'⟩), (fun h => by obtain ⟨b, e, r⟩ := g2 h; exact ⟨b, by rw [eval_put_ne (by decide)]; exact e, r.below hb'⟩), (fun h => by obtain ⟨b, e, r⟩ := g3 h; exact ⟨b, by rw [eval_put_ne (by decide)]; exact e, r.below hb'⟩), (fun h => by rw [eval_put_ne (by decide)]; exact g4 h), (fun h => by rw [eval_put_ne (by decide)]; exact g5 h), (fun h => by obtain ⟨b, e, r⟩ := g6 h; exact ⟨b, by rw [eval_put_ne (by decide)]; exact e, r.below hb'⟩), (fun h => by obtain ⟨b, e, r⟩ := g7 h; exact ⟨b, by rw [eval_put_ne (by decide)]; exact e, r.below hb'⟩), (fun h => by rw [eval_put_ne (by decide)]; exact g8 h), (fun h => by rw [eval_put_ne (by decide)]; exact g9 h), (fun h => by obtain ⟨b, e, r⟩ := g10 h; exact ⟨b, by rw [eval_put_ne (by decide)]; exact e, r.below hb'⟩), (fun h => by rw [eval_put_ne (by decide)]; exact g11 h), (fun h => by rw [eval_put_ne (by decide)]; exact g12 h)⟩⟩
    · cases ho
      have hb' : Below X.heap.size X (X.alloc (.cells #[.int .i64 (m 1 0), .int .i64 (m 1 1), .int .i64 (m 1 2)] 3)) := (Below.refl _ _).alloc (Nat.le_refl _) _
      refine wpOp_value rfl rfl (run_row X a (m 1 0) (m 1 1) (m 1 2) 6 _ _ _) ?_
      show IB w k n s k' n' s' i j m a0 (upd L 1) (a.put (some 6) _) _
      exact ⟨hF.put (by decide) _, fun h => (hno h).elim, fun h => (hno h).elim, fun _ => ⟨hv.step hb', (fun h => by obtain ⟨b, e, r⟩ := g0 h; exact ⟨b, by rw [eval_put_ne (by decide)]; exact e, r.below hb'⟩), (fun _ => ⟨X.heap.size, eval_put_same (by omega) _, by simp, by go_simp, by go_simp, by go_simp⟩), (fun h => by obtain ⟨b, e, r⟩ := g2 h; exact ⟨b, by rw [eval_put_ne (by decide)]; exact e, r.below hb'⟩), (fun h => by obtain ⟨b, e, r⟩ := g3 h; exact ⟨b, by rw [eval_put_ne (by decide)]; exact e, r.below hb'⟩), (fun h => by rw [eval_put_ne (by decide)]; exact g4 h), (fun h => by rw [eval_put_ne (by decide)]; exact g5 h), (fun h => by obtain ⟨b, e, r⟩ := g6 h; exact ⟨b, by rw [eval_put_ne (by decide)]; exact e, r.below hb'⟩), (fun h => by obtain ⟨b, e, r⟩ := g7 h; exact ⟨b, by rw [eval_put_ne (by decide)]; exact e, r.below hb'⟩), (fun h => by rw [eval_put_ne (by decide)]; exact g8 h), (fun h => by rw [eval_put_ne (by decide)]; exact g9 h), (fun h => by obtain ⟨b, e, r⟩ := g10 h; exact ⟨b, by rw [eval_put_ne (by decide)]; exact e, r.below hb'⟩), (fun h => by rw [eval_put_ne (by decide)]; exact g11 h), (fun h => by rw [eval_put_ne (by decide)]; exact g12 h)⟩⟩
    · cases ho
      have hb' : Below X.heap.size X (X.alloc (.cells #[.int .i64 (m 2 0), .int .i64 (m 2 1), .int .i64 (m 2 2)] 3)) := (Below.refl _ _).alloc (Nat.le_refl _) _
      refine wpOp_value rfl rfl (run_row X a (m 2 0) (m 2 1) (m 2 2) 7 _ _ _) ?_
      show IB w k n s k' n' s' i j m a0 (upd L 2) (a.put (some 7) _) _
      exact ⟨hF.put (by decide) _, fun h => (hno h).elim, fun h => (hno h).elim, fun _ => ⟨hv.step hb', (fun h => by obtain ⟨b, e, r⟩ := g0 h; exact ⟨b, by rw [eval_put_ne (by decide)]; exact e, r.below hb'⟩), (fun h => by obtain ⟨b, e, r⟩ := g1 h; exact ⟨b, by rw [eval_put_ne (by decide)]; exact e, r.below hb'⟩), (fun _ => ⟨X.heap.size, eval_put_same (by omega) _, by simp, by go_simp, by go_simp, by go_simp⟩), (fun h => by obtain ⟨b, e, r⟩ := g3 h; exact ⟨b, by rw [eval_put_ne (by decide)]; exact e, r.below hb'⟩), (fun h => by rw [eval_put_ne (by decide)]; exact g4 h), (fun h => by rw [eval_put_ne (by decide)]; exact g5 h), (fun h => by obtain ⟨b, e, r⟩ := g6 h; exact ⟨b, by rw [eval_put_ne (by decide)]; exact e, r.below hb'⟩), (fun h => by obtain ⟨b, e, r⟩ := g7 h; exact ⟨b, by rw [eval_put_ne (by decide)]; exact e, r.below hb'⟩), (fun h => by rw [eval_put_ne (by decide)]; exact g8 h), (fun h => by rw [eval_put_ne (by decide)]; exact g9 h), (fun h => by obtain ⟨b, e, r⟩ := g10 h; exact ⟨b, by rw [eval_put_ne (by decide)]; exact e, r.below hb'⟩), (fun h => by rw [eval_put_ne (by decide)]; exact g11 h), (fun h => by rw [eval_put_ne (by decide)]; exact g12 h)⟩⟩
    · cases ho
      have hdj := depB_spec d3 hd
      obtain ⟨r0, x0, R0⟩ := g0 (hdj 0 (by decide))
      obtain ⟨r1, x1, R1⟩ := g1 (hdj 1 (by decide))
      obtain ⟨r2, x2, R2⟩ := g2 (hdj 2 (by decide))
      have hb' : Below X.heap.size X (X.alloc (.cells #[.slice (some ⟨r0, 0, none⟩) 3 3, .slice (some ⟨r1, 0, none⟩) 3 3, .slice (some ⟨r2, 0, none⟩) 3 3] 60)) := (Below.refl _ _).alloc (Nat.le_refl _) _
      have hT : Tab3 (X.alloc (.cells #[.slice (some ⟨r0, 0, none⟩) 3 3, .slice (some ⟨r1, 0, none⟩) 3 3, .slice (some ⟨r2, 0, none⟩) 3 3] 60)) X.heap.size m := by
        refine ⟨by simp, fun i hi => ?_⟩
        match i, hi with
        | 0, _ => exact ⟨r0, by go_simp, R0.below hb'⟩
        | 1, _ => exact ⟨r1, by go_simp, R1.below hb'⟩
        | 2, _ => exact ⟨r2, by go_simp, R2.below hb'⟩
      refine wpOp_value rfl rfl (run_tab X a x0 x1 x2 _ _ _ rfl rfl rfl) ?_
      show IB w k n s k' n' s' i j m a0 (upd L 3) (a.put (some 8) _) _
      exact ⟨hF.put (by decide) _, fun h => (hno h).elim, fun h => (hno h).elim, fun _ => ⟨hv.step hb', (fun h => by obtain ⟨b, e, r⟩ := g0 h; exact ⟨b, by rw [eval_put_ne (by decide)]; exact e, r.below hb'⟩), (fun h => by obtain ⟨b, e, r⟩ := g1 h; exact ⟨b, by rw [eval_put_ne (by decide)]; exact e, r.below hb'⟩), (fun h => by obtain ⟨b, e, r⟩ := g2 h; exact ⟨b, by rw [eval_put_ne (by decide)]; exact e, r.below hb'⟩), (fun _ => ⟨X.heap.size, eval_put_same (by omega) _, hT⟩), (fun h => by rw [eval_put_ne (by decide)]; exact g4 h), (fun h => by rw [eval_put_ne (by decide)]; exact g5 h), (fun h => by obtain ⟨b, e, r⟩ := g6 h; exact ⟨b, by rw [eval_put_ne (by decide)]; exact e, r.below hb'⟩), (fun h => by obtain ⟨b, e, r⟩ := g7 h; exact ⟨b, by rw [eval_put_ne (by decide)]; exact e, r.below hb'⟩), (fun h => by rw [eval_put_ne (by decide)]; exact g8 h), (fun h => by rw [eval_put_ne (by decide)]; exact g9 h), (fun h => by obtain ⟨b, e, r⟩ := g10 h; exact ⟨b, by rw [eval_put_ne (by decide)]; exact e, r.below hb'⟩), (fun h => by rw [eval_put_ne (by decide)]; exact g11 h), (fun h => by rw [eval_put_ne (by decide)]; exact g12 h)⟩⟩
    · cases ho
      have hb' : Below X.heap.size X X := Below.refl _ _
      refine wpOp_value rfl rfl (run_loadB a0' a1 a2 a 2 9 _ _ _ E2) ?_
      show IB w k n s k' n' s' i j m a0 (upd L 4) (a.put (some 9) _) _
      exact ⟨hF.put (by decide) _, fun h => (hno h).elim, fun h => (hno h).elim, fun _ => ⟨hv.step hb', (fun h => by obtain ⟨b, e, r⟩ := g0 h; exact ⟨b, by rw [eval_put_ne (by decide)]; exact e, r.below hb'⟩), (fun h => by obtain ⟨b, e, r⟩ := g1 h; exact ⟨b, by rw [eval_put_ne (by decide)]; exact e, r.below hb'⟩), (fun h => by obtain ⟨b, e, r⟩ := g2 h; exact ⟨b, by rw [eval_put_ne (by decide)]; exact e, r.below hb'⟩), (fun h => by obtain ⟨b, e, r⟩ := g3 h; exact ⟨b, by rw [eval_put_ne (by decide)]; exact e, r.below hb'⟩), (fun _ => eval_put_same (by omega) _), (fun h => by rw [eval_put_ne (by decide)]; exact g5 h), (fun h => by obtain ⟨b, e, r⟩ := g6 h; exact ⟨b, by rw [eval_put_ne (by decide)]; exact e, r.below hb'⟩), (fun h => by obtain ⟨b, e, r⟩ := g7 h; exact ⟨b, by rw [eval_put_ne (by decide)]; exact e, r.below hb'⟩), (fun h => by rw [eval_put_ne (by decide)]; exact g8 h), (fun h => by rw [eval_put_ne (by decide)]; exact g9 h), (fun h => by obtain ⟨b, e, r⟩ := g10 h; exact ⟨b, by rw [eval_put_ne (by decide)]; exact e, r.below hb'⟩), (fun h => by rw [eval_put_ne (by decide)]; exact g11 h), (fun h => by rw [eval_put_ne (by decide)]; exact g12 h)⟩⟩
    · cases ho
      have hdj := depB_spec d5 hd
      have u := g4 (hdj 4 (by decide))
      refine wpOp_call (R := fun r X' => r = .int .i64 i ∧ Below X.heap.size X X') rfl rfl (run_three X a 9 10 _ _ _ u) ((rthree _ _ _ X).mono fun e X' h => ⟨_, h.1, by rw [ht], h.2⟩) ?_
      rintro r X' ⟨rfl, hb'⟩
      show IB w k n s k' n' s' i j m a0 (upd L 5) (a.put (some 10) _) _
      exact ⟨hF.put (by decide) _, fun h => (hno h).elim, fun h => (hno h).elim, fun _ => ⟨hv.step hb', (fun h => by obtain ⟨b, e, r⟩ := g0 h; exact ⟨b, by rw [eval_put_ne (by decide)]; exact e, r.below hb'⟩), (fun h => by obtain ⟨b, e, r⟩ := g1 h; exact ⟨b, by rw [eval_put_ne (by decide)]; exact e, r.below hb'⟩), (fun h => by obtain ⟨b, e, r⟩ := g2 h; exact ⟨b, by rw [eval_put_ne (by decide)]; exact e, r.below hb'⟩), (fun h => by obtain ⟨b, e, r⟩ := g3 h; exact ⟨b, by rw [eval_put_ne (by decide)]; exact e, r.below hb'⟩), (fun h => by rw [eval_put_ne (by decide)]; exact g4 h), (fun _ => eval_put_same (by omega) _), (fun h => by obtain ⟨b, e, r⟩ := g6 h; exact ⟨b, by rw [eval_put_ne (by decide)]; exact e, r.below hb'⟩), (fun h => by obtain ⟨b, e, r⟩ := g7 h; exact ⟨b, by rw [eval_put_ne (by decide)]; exact e, r.below hb'⟩), (fun h => by rw [eval_put_ne (by decide)]; exact g8 h), (fun h => by rw [eval_put_ne (by decide)]; exact g9 h), (fun h => by obtain ⟨b, e, r⟩ := g10 h; exact ⟨b, by rw [eval_put_ne (by decide)]; exact e, r.below hb'⟩), (fun h => by rw [eval_put_ne (by decide)]; exact g11 h), (fun h => by rw [eval_put_ne (by decide)]; exact g12 h)⟩⟩
    · cases ho
      have hdj := depB_spec d6 hd
      obtain ⟨b, x, hT⟩ := g3 (hdj 3 (by decide))
      have u := g5 (hdj 5 (by decide))
      have hb' : Below X.heap.size X X := Below.refl _ _
      refine wpOp_value rfl rfl (run_at1 X a b 8 10 11 _ _ _ hi3 x u) ?_
      show IB w k n s k' n' s' i j m a0 (upd L 6) (a.put (some 11) _) _
      exact ⟨hF.put (by decide) _, fun h => (hno h).elim, fun h => (hno h).elim, fun _ => ⟨hv.step hb', (fun h => by obtain ⟨b, e, r⟩ := g0 h; exact ⟨b, by rw [eval_put_ne (by decide)]; exact e, r.below hb'⟩), (fun h => by obtain ⟨b, e, r⟩ := g1 h; exact ⟨b, by rw [eval_put_ne (by decide)]; exact e, r.below hb'⟩), (fun h => by obtain ⟨b, e, r⟩ := g2 h; exact ⟨b, by rw [eval_put_ne (by decide)]; exact e, r.below hb'⟩), (fun h => by obtain ⟨b, e, r⟩ := g3 h; exact ⟨b, by rw [eval_put_ne (by decide)]; exact e, r.below hb'⟩), (fun h => by rw [eval_put_ne (by decide)]; exact g4 h), (fun h => by rw [eval_put_ne (by decide)]; exact g5 h), (fun _ => ⟨b, eval_put_same (by omega) _, hT⟩), (fun h => by obtain ⟨b, e, r⟩ := g7 h; exact ⟨b, by rw [eval_put_ne (by decide)]; exact e, r.below hb'⟩), (fun h => by rw [eval_put_ne (by decide)]; exact g8 h), (fun h => by rw [eval_put_ne (by decide)]; exact g9 h), (fun h => by obtain ⟨b, e, r⟩ := g10 h; exact ⟨b, by rw [eval_put_ne (by decide)]; exact e, r.below hb'⟩), (fun h => by rw [eval_put_ne (by decide)]; exact g11 h), (fun h => by rw [eval_put_ne (by decide)]; exact g12 h)⟩⟩
    · cases ho
      have hdj := depB_spec d7 hd
      obtain ⟨b, x, hT⟩ := g6 (hdj 6 (by decide))
      obtain ⟨r, y, hR⟩ := hT.2 i hi3
      have hb' : Below X.heap.size X X := Below.refl _ _
      refine wpOp_value rfl rfl (run_load1 X a _ _ 11 12 _ _ _ (Or.inl rfl) y x) ?_
      show IB w k n s k' n' s' i j m a0 (upd L 7) (a.put (some 12) _) _
      exact ⟨hF.put (by decide) _, fun h => (hno h).elim, fun h => (hno h).elim, fun _ => ⟨hv.step hb', (fun h => by obtain ⟨b, e, r⟩ := g0 h; exact ⟨b, by rw [eval_put_ne (by decide)]; exact e, r.below hb'⟩), (fun h => by obtain ⟨b, e, r⟩ := g1 h; exact ⟨b, by rw [eval_put_ne (by decide)]; exact e, r.below hb'⟩), (fun h => by obtain ⟨b, e, r⟩ := g2 h; exact ⟨b, by rw [eval_put_ne (by decide)]; exact e, r.below hb'⟩), (fun h => by obtain ⟨b, e, r⟩ := g3 h; exact ⟨b, by rw [eval_put_ne (by decide)]; exact e, r.below hb'⟩), (fun h => by rw [eval_put_ne (by decide)]; exact g4 h), (fun h => by rw [eval_put_ne (by decide)]; exact g5 h), (fun h => by obtain ⟨b, e, r⟩ := g6 h; exact ⟨b, by rw [eval_put_ne (by decide)]; exact e, r.below hb'⟩), (fun _ => ⟨r, eval_put_same (by omega) _, hR⟩), (fun h => by rw [eval_put_ne (by decide)]; exact g8 h), (fun h => by rw [eval_put_ne (by decide)]; exact g9 h), (fun h => by obtain ⟨b, e, r⟩ := g10 h; exact ⟨b, by rw [eval_put_ne (by decide)]; exact e, r.below hb'⟩), (fun h => by rw [eval_put_ne (by decide)]; exact g11 h), (fun h => by rw [eval_put_ne (by decide)]; exact g12 h)⟩⟩
    · cases ho
      have hb' : Below X.heap.size X X := Below.refl _ _
      refine wpOp_value rfl rfl (run_loadB b0 b1 b2 a 3 13 _ _ _ E3) ?_
      show IB w k n s k' n' s' i j m a0 (upd L 8) (a.put (some 13) _) _
      exact ⟨hF.put (by decide) _, fun h => (hno h).elim, fun h => (hno h).elim, fun _ => ⟨hv.step hb', (fun h => by obtain ⟨b, e, r⟩ := g0 h; exact ⟨b, by rw [eval_put_ne (by decide)]; exact e, r.below hb'⟩), (fun h => by obtain ⟨b, e, r⟩ := g1 h; exact ⟨b, by rw [eval_put_ne (by decide)]; exact e, r.below hb'⟩), (fun h => by obtain ⟨b, e, r⟩ := g2 h; exact ⟨b, by rw [eval_put_ne (by decide)]; exact e, r.below hb'⟩), (fun h => by obtain ⟨b, e, r⟩ := g3 h; exact ⟨b, by rw [eval_put_ne (by decide)]; exact e, r.below hb'⟩), (fun h => by rw [eval_put_ne (by decide)]; exact g4 h), (fun h => by rw [eval_put_ne (by decide)]; exact g5 h), (fun h => by obtain ⟨b, e, r⟩ := g6 h; exact ⟨b, by rw [eval_put_ne (by decide)]; exact e, r.below hb'⟩), (fun h => by obtain ⟨b, e, r⟩ := g7 h; exact ⟨b, by rw [eval_put_ne (by decide)]; exact e, r.below hb'⟩), (fun _ => eval_put_same (by omega) _), (fun h => by rw [eval_put_ne (by decide)]; exact g9 h), (fun h => by obtain ⟨b, e, r⟩ := g10 h; exact ⟨b, by rw [eval_put_ne (by decide)]; exact e, r.below hb'⟩), (fun h => by rw [eval_put_ne (by decide)]; exact g11 h), (fun h => by rw [eval_put_ne (by decide)]; exact g12 h)⟩⟩
    · cases ho
      have hdj := depB_spec d9 hd
      have u := g8 (hdj 8 (by decide))
      refine wpOp_call (R := fun r X' => r = .int .i64 j ∧ Below X.heap.size X X') rfl rfl (run_three X a 13 14 _ _ _ u) ((rthree _ _ _ X).mono fun e X' h => ⟨_, h.1, by rw [ht'], h.2⟩) ?_
      rintro r X' ⟨rfl, hb'⟩
      show IB w k n s k' n' s' i j m a0 (upd L 9) (a.put (some 14) _) _
      exact ⟨hF.put (by decide) _, fun h => (hno h).elim, fun h => (hno h).elim, fun _ => ⟨hv.step hb', (fun h => by obtain ⟨b, e, r⟩ := g0 h; exact ⟨b, by rw [eval_put_ne (by decide)]; exact e, r.below hb'⟩), (fun h => by obtain ⟨b, e, r⟩ := g1 h; exact ⟨b, by rw [eval_put_ne (by decide)]; exact e, r.below hb'⟩), (fun h => by obtain ⟨b, e, r⟩ := g2 h; exact ⟨b, by rw [eval_put_ne (by decide)]; exact e, r.below hb'⟩), (fun h => by obtain ⟨b, e, r⟩ := g3 h; exact ⟨b, by rw [eval_put_ne (by decide)]; exact e, r.below hb'⟩), (fun h => by rw [eval_put_ne (by decide)]; exact g4 h), (fun h => by rw [eval_put_ne (by decide)]; exact g5 h), (fun h => by obtain ⟨b, e, r⟩ := g6 h; exact ⟨b, by rw [eval_put_ne (by decide)]; exact e, r.below hb'⟩), (fun h => by obtain ⟨b, e, r⟩ := g7 h; exact ⟨b, by rw [eval_put_ne (by decide)]; exact e, r.below hb'⟩), (fun h => by rw [eval_put_ne (by decide)]; exact g8 h), (fun _ => eval_put_same (by omega) _), (fun h => by obtain ⟨b, e, r⟩ := g10 h; exact ⟨b, by rw [eval_put_ne (by decide)]; exact e, r.below hb'⟩), (fun h => by rw [eval_put_ne (by decide)]; exact g11 h), (fun h => by rw [eval_put_ne (by decide)]; exact g12 h)⟩⟩
    · cases ho
      have hdj := depB_spec d10 hd
      obtain ⟨b, x, hR⟩ := g7 (hdj 7 (by decide))
      have u := g9 (hdj 9 (by decide))
      have hb' : Below X.heap.size X X := Below.refl _ _
      refine wpOp_value rfl rfl (run_at2 X a b 12 14 15 _ _ _ hj3 x u) ?_
      show IB w k n s k' n' s' i j m a0 (upd L 10) (a.put (some 15) _) _
      exact ⟨hF.put (by decide) _, fun h => (hno h).elim, fun h => (hno h).elim, fun _ => ⟨hv.step hb', (fun h => by obtain ⟨b, e, r⟩ := g0 h; exact ⟨b, by rw [eval_put_ne (by decide)]; exact e, r.below hb'⟩), (fun h => by obtain ⟨b, e, r⟩ := g1 h; exact ⟨b, by rw [eval_put_ne (by decide)]; exact e, r.below hb'⟩), (fun h => by obtain ⟨b, e, r⟩ := g2 h; exact ⟨b, by rw [eval_put_ne (by decide)]; exact e, r.below hb'⟩), (fun h => by obtain ⟨b, e, r⟩ := g3 h; exact ⟨b, by rw [eval_put_ne (by decide)]; exact e, r.below hb'⟩), (fun h => by rw [eval_put_ne (by decide)]; exact g4 h), (fun h => by rw [eval_put_ne (by decide)]; exact g5 h), (fun h => by obtain ⟨b, e, r⟩ := g6 h; exact ⟨b, by rw [eval_put_ne (by decide)]; exact e, r.below hb'⟩), (fun h => by obtain ⟨b, e, r⟩ := g7 h; exact ⟨b, by rw [eval_put_ne (by decide)]; exact e, r.below hb'⟩), (fun h => by rw [eval_put_ne (by decide)]; exact g8 h), (fun h => by rw [eval_put_ne (by decide)]; exact g9 h), (fun _ => ⟨b, eval_put_same (by omega) _, hR⟩), (fun h => by rw [eval_put_ne (by decide)]; exact g11 h), (fun h => by rw [eval_put_ne (by decide)]; exact g12 h)⟩⟩
    · cases ho
      have hdj := depB_spec d11 hd
      obtain ⟨b, x, hR⟩ := g10 (hdj 10 (by decide))
      have hb' : Below X.heap.size X X := Below.refl _ _
      refine wpOp_value rfl rfl (run_load1 X a _ _ 15 16 _ _ _ (Or.inr rfl) (hR.get hj3) x) ?_
      show IB w k n s k' n' s' i j m a0 (upd L 11) (a.put (some 16) _) _
      exact ⟨hF.put (by decide) _, fun h => (hno h).elim, fun h => (hno h).elim, fun _ => ⟨hv.step hb', (fun h => by obtain ⟨b, e, r⟩ := g0 h; exact ⟨b, by rw [eval_put_ne (by decide)]; exact e, r.below hb'⟩), (fun h => by obtain ⟨b, e, r⟩ := g1 h; exact ⟨b, by rw [eval_put_ne (by decide)]; exact e, r.below hb'⟩), (fun h => by obtain ⟨b, e, r⟩ := g2 h; exact ⟨b, by rw [eval_put_ne (by decide)]; exact e, r.below hb'⟩), (fun h => by obtain ⟨b, e, r⟩ := g3 h; exact ⟨b, by rw [eval_put_ne (by decide)]; exact e, r.below hb'⟩), (fun h => by rw [eval_put_ne (by decide)]; exact g4 h), (fun h => by rw [eval_put_ne (by decide)]; exact g5 h), (fun h => by obtain ⟨b, e, r⟩ := g6 h; exact ⟨b, by rw [eval_put_ne (by decide)]; exact e, r.below hb'⟩), (fun h => by obtain ⟨b, e, r⟩ := g7 h; exact ⟨b, by rw [eval_put_ne (by decide)]; exact e, r.below hb'⟩), (fun h => by rw [eval_put_ne (by decide)]; exact g8 h), (fun h => by rw [eval_put_ne (by decide)]; exact g9 h), (fun h => by obtain ⟨b, e, r⟩ := g10 h; exact ⟨b, by rw [eval_put_ne (by decide)]; exact e, r.below hb'⟩), (fun _ => eval_put_same (by omega) _), (fun h => by rw [eval_put_ne (by decide)]; exact g12 h)⟩⟩
    · cases ho
      have hdj := depB_spec d12 hd
      have u := g11 (hdj 11 (by decide))
      refine wpOp_call (R := fun r X' => r = (.agg #[.int .i64 (tk (m i j)), .int .i64 (tn (m i j)), .string (⟨#[]⟩)]) ∧ Below X.heap.size X X') rfl rfl (run_told X a 16 17 _ _ _ u) ((rtold (m i j) hm3 X).mono fun e X' h => ⟨_, h.1, rfl, h.2⟩) ?_
      rintro r X' ⟨rfl, hb'⟩
      show IB w k n s k' n' s' i j m a0 (upd L 12) (a.put (some 17) _) _
      exact ⟨hF.put (by decide) _, fun h => (hno h).elim, fun h => (hno h).elim, fun _ => ⟨hv.step hb', (fun h => by obtain ⟨b, e, r⟩ := g0 h; exact ⟨b, by rw [eval_put_ne (by decide)]; exact e, r.below hb'⟩), (fun h => by obtain ⟨b, e, r⟩ := g1 h; exact ⟨b, by rw [eval_put_ne (by decide)]; exact e, r.below hb'⟩), (fun h => by obtain ⟨b, e, r⟩ := g2 h; exact ⟨b, by rw [eval_put_ne (by decide)]; exact e, r.below hb'⟩), (fun h => by obtain ⟨b, e, r⟩ := g3 h; exact ⟨b, by rw [eval_put_ne (by decide)]; exact e, r.below hb'⟩), (fun h => by rw [eval_put_ne (by decide)]; exact g4 h), (fun h => by rw [eval_put_ne (by decide)]; exact g5 h), (fun h => by obtain ⟨b, e, r⟩ := g6 h; exact ⟨b, by rw [eval_put_ne (by decide)]; exact e, r.below hb'⟩), (fun h => by obtain ⟨b, e, r⟩ := g7 h; exact ⟨b, by rw [eval_put_ne (by decide)]; exact e, r.below hb'⟩), (fun h => by rw [eval_put_ne (by decide)]; exact g8 h), (fun h => by rw [eval_put_ne (by decide)]; exact g9 h), (fun h => by obtain ⟨b, e, r⟩ := g10 h; exact ⟨b, by rw [eval_put_ne (by decide)]; exact e, r.below hb'⟩), (fun h => by rw [eval_put_ne (by decide)]; exact g11 h), (fun _ => eval_put_same (by omega) _)⟩⟩
    · cases ho
      have hdj := depB_spec d13 hd
      have u := g12 (hdj 12 (by decide))
      refine wpOp_skip rfl rfl (run_storeB c0 c1 c2 z0 z1 z2 a 4 17 _ _ _ E4 u) ?_
      show IB w k n s k' n' s' i j m a0 (upd L 13) (a.put none _) _
      refine ⟨hF, fun _ q hq => ?_, fun _ => ⟨by go_simp, by go_simp, by go_simp, ((hB.setCell (show w.heap.size ≤ w.heap.size + 1 + 1 by omega) _).setCell (show w.heap.size ≤ w.heap.size + 1 + 1 by omega) _).setCell (show w.heap.size ≤ w.heap.size + 1 + 1 by omega) _⟩, fun h => (by cases h)⟩
      rw [upd_ne _ (by omega)]
      exact hdj q (by have : q = 0 ∨ q = 1 ∨ q = 2 ∨ q = 3 ∨ q = 4 ∨ q = 5 ∨ q = 6 ∨ q = 7 ∨ q = 8 ∨ q = 9 ∨ q = 10 ∨ q = 11 ∨ q = 12 := by omega
                      simpa using this)
    · cases ho
  · intro L a X hI hall
    obtain ⟨hF, -, hD, -⟩ := hI
    have hs : a.tmps.size = a0.tmps.size := hF.2.1
    obtain ⟨hc0, hc1, hc2, hB⟩ := hD (hall 13 (by rw [hops]; exact Nat.lt_of_lt_of_le (by decide : 13 < 14) (Nat.le_refl _)))
    rw [hF.eq [(5, a.eval (.tmp 5)), (6, a.eval (.tmp 6)), (7, a.eval (.tmp 7)), (8, a.eval (.tmp 8)), (9, a.eval (.tmp 9)), (10, a.eval (.tmp 10)), (11, a.eval (.tmp 11)), (12, a.eval (.tmp 12)), (13, a.eval (.tmp 13)), (14, a.eval (.tmp 14)), (15, a.eval (.tmp 15)), (16, a.eval (.tmp 16)), (17, a.eval (.tmp 17))] (fun _ h => h) ?_]
    · exact hQ _ _ _ _ _ _ _ _ _ _ _ _ _ X ⟨hc0, hc1, hc2⟩ hB
    · intro p hp
      simp only [List.mem_cons, List.not_mem_nil, or_false] at hp
      rcases hp with rfl | rfl | rfl | rfl | rfl | rfl | rfl | rfl | rfl | rfl | rfl | rfl | rfl <;> exact ⟨by simp only; omega, rfl⟩

def tabB (i j : Nat) : Int := both i j
def tabE (i j : Nat) : Int := either i j
theorem th_nat (k n : Int) : ∃ i : Nat, i < 3 ∧ th k n = i := by
  rcases th_range k n with h | h | h
  · exact ⟨0, by decide, h⟩
  · exact ⟨1, by decide, h⟩
  · exact ⟨2, by decide, h⟩

set_option maxHeartbeats 2000000 in
theorem rboth (k n : Int) (s : ByteArray) (k' n' : Int) (s' : ByteArray) (w : World) : Calls Try.prog 20 #[(.agg #[.int .i64 (k), .int .i64 (n), .string (s)]), (.agg #[.int .i64 (k'), .int .i64 (n'), .string (s')])] w fun e w' => e = .returned (.agg #[.int .i64 (tk (both (th k n) (th k' n'))), .int .i64 (tn (both (th k n) (th k' n'))), .string (⟨#[]⟩)]) ∧ Below w.heap.size w w' := by
  obtain ⟨i, hi, ei⟩ := th_nat k n
  obtain ⟨j, hj, ej⟩ := th_nat k' n'
  rw [ei, ej]
  have H3 : tabB i j = 0 ∨ tabB i j = 1 ∨ tabB i j = 2 := by
    unfold tabB both
    split
    · simp
    · split <;> simp
  go_enter Try.func20, Try.ntmps20
  go_upto_region 1 with fail
  refine regB (w := w) (s := s) (s' := s') i j hi hj ei ej tabB H3 ?_ ?_ rfl rfl rfl rfl (by kernel_rfl) (by kernel_rfl) (by kernel_rfl) (by kernel_rfl) (by kernel_rfl) (by kernel_rfl) (by kernel_rfl) (by kernel_rfl) (by kernel_rfl) (by kernel_rfl) (by kernel_rfl) ?_
  · refine ⟨by go_simp, by go_simp, by go_simp, by go_simp, by go_simp, by go_simp, by go_simp, by go_simp, by go_simp, by go_simp, by go_simp, by go_simp, ((((Below.refl _ _).alloc (Nat.le_refl _) _).alloc (by simp) _).alloc (by simp; omega) _), by simp⟩
  · simp
  · intro u5 u6 u7 u8 u9 u10 u11 u12 u13 u14 u15 u16 u17 X C hB
    obtain ⟨c0, c1, c2⟩ := C
    simp only [sets, List.setIfInBounds_toArray, List.set_cons_zero, List.set_cons_succ]
    go_wp2
    exact bodyPost_ret (v := (.agg #[.int .i64 (tk (tabB i j)), .int .i64 (tn (tabB i j)), .string (⟨#[]⟩)])) (by simp [results, Try.results20, go_sem, *]) rfl ⟨rfl, hB⟩

set_option maxHeartbeats 2000000 in
theorem reither (k n : Int) (s : ByteArray) (k' n' : Int) (s' : ByteArray) (w : World) : Calls Try.prog 22 #[(.agg #[.int .i64 (k), .int .i64 (n), .string (s)]), (.agg #[.int .i64 (k'), .int .i64 (n'), .string (s')])] w fun e w' => e = .returned (.agg #[.int .i64 (tk (either (th k n) (th k' n'))), .int .i64 (tn (either (th k n) (th k' n'))), .string (⟨#[]⟩)]) ∧ Below w.heap.size w w' := by
  obtain ⟨i, hi, ei⟩ := th_nat k n
  obtain ⟨j, hj, ej⟩ := th_nat k' n'
  rw [ei, ej]
  have H3 : tabE i j = 0 ∨ tabE i j = 1 ∨ tabE i j = 2 := by
    unfold tabE either
    split
    · simp
    · split <;> simp
  go_enter Try.func22, Try.ntmps22
  go_upto_region 1 with fail
  refine regB (w := w) (s := s) (s' := s') i j hi hj ei ej tabE H3 ?_ ?_ rfl rfl rfl rfl (by kernel_rfl) (by kernel_rfl) (by kernel_rfl) (by kernel_rfl) (by kernel_rfl) (by kernel_rfl) (by kernel_rfl) (by kernel_rfl) (by kernel_rfl) (by kernel_rfl) (by kernel_rfl) ?_
  · refine ⟨by go_simp, by go_simp, by go_simp, by go_simp, by go_simp, by go_simp, by go_simp, by go_simp, by go_simp, by go_simp, by go_simp, by go_simp, ((((Below.refl _ _).alloc (Nat.le_refl _) _).alloc (by simp) _).alloc (by simp; omega) _), by simp⟩
  · simp
  · intro u5 u6 u7 u8 u9 u10 u11 u12 u13 u14 u15 u16 u17 X C hB
    obtain ⟨c0, c1, c2⟩ := C
    simp only [sets, List.setIfInBounds_toArray, List.set_cons_zero, List.set_cons_succ]
    go_wp2
    exact bodyPost_ret (v := (.agg #[.int .i64 (tk (tabE i j)), .int .i64 (tn (tabE i j)), .string (⟨#[]⟩)])) (by simp [results, Try.results22, go_sem, *]) rfl ⟨rfl, hB⟩
end Go.Proofs.Ytdhfpfkhhmdfgaa
