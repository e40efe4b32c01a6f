/- The statement of relstoreref.Open that takes one cell more, whatever its order is. -/
import Derived.Test.YthimnpobcfkghaaPageR3
namespace Go.Proofs.Ythimnpobcfkghaa
open Go.RowKit

theorem Bx3.set2 {W : World} {B : Nat} {x y z : Value} (h : Bx3 W B x y z) (z' : Value) : Bx3 (W.setCell ⟨B, 2, none⟩ z') B x y z' := heap_setCell_same W B 2 #[x, y, z] 45 z' h
theorem Bx3.far {W : World} {B A o : Nat} {x y z : Value} (h : Bx3 W B x y z) (hne : B ≠ A) (v : Value) : Bx3 (W.setCell ⟨A, o, none⟩ v) B x y z :=
  (Below.heap_setCell _ _ _ B (fun e => hne (by rw [e]))).trans h
theorem Bx3.kept {W W' : World} {row : Option Nat} {B : Nat} {x y z : Value} (h : Bx3 W B x y z) (hg : W.grownBy W' row) (hne : some B ≠ row) : Bx3 W' B x y z := (hg.block B h.lt hne).trans h
theorem own_set {W : World} {B base k : Nat} {x y z v : Value} {xs : List Value} (h : Bx3 W B x y z) (ho : W.ownsRow base 9 1 v k xs) (o : Nat) (u : Value) : (W.setCell ⟨B, o, none⟩ u).ownsRow base 9 1 v k xs := by
  refine ⟨ho.1, ?_⟩
  have hne := own_ne h ho
  rcases ho.2 with h' | ⟨g, cap, cur, rfl, h1, h2, h3⟩
  · exact .inl h'
  · refine .inr ⟨g, cap, cur, rfl, h1, (Below.heap_setCell _ _ _ g (fun e => hne (by simp [Value.ownBlock]; exact e))).trans h2, h3⟩
theorem rn_a2 (X : World) (a : Act) (i d n : Nat) (hn : n < 1000000) (t : TypeId) (p : String) (f : Array Edge) (he : a.eval (.tmp i) = .int .i64 n) :
    (execOp a.eval { dst := some d, op := .binOp .add 3 (.tmp i) (.const (.int .i64 2)) 3, type := t, pos := p, after := f, guard := none }).run Try.prog X = .ok (.value (.int .i64 ((n + 2 : Nat) : Int))) X := by
  have e1 : IntKind.i64.wrap ((n : Int) + 2) = (n : Int) + 2 := wrap_i64n (n + 2) (by omega)
  rw [show ((n + 2 : Nat) : Int) = (n : Int) + 2 by omega]
  simp only [execOp, he]
  go_simp
theorem rn_aa (X : World) (a : Act) (i j d n m : Nat) (hn : n < 1000000) (hm : m < 1000000) (t : TypeId) (p : String) (f : Array Edge) (he : a.eval (.tmp i) = .int .i64 n) (hj : a.eval (.tmp j) = .int .i64 m) :
    (execOp a.eval { dst := some d, op := .binOp .add 3 (.tmp i) (.tmp j) 3, type := t, pos := p, after := f, guard := none }).run Try.prog X = .ok (.value (.int .i64 ((n + m : Nat) : Int))) X := by
  have e1 : IntKind.i64.wrap ((n : Int) + m) = (n : Int) + m := wrap_i64n (n + m) (by omega)
  rw [show ((n + m : Nat) : Int) = (n : Int) + m by omega]
  simp only [execOp, he, hj]
  go_simp
theorem rn_sl (X : World) (a : Act) (i j l d x y : Nat) (s : ByteArray) (hxy : x ≤ y) (hy : y ≤ s.size) (hs : s.size = 1024) (t : TypeId) (p : String) (f : Array Edge) (hi : a.eval (.tmp i) = .string s) (hj : a.eval (.tmp j) = .int .i64 x) (hl : a.eval (.tmp l) = .int .i64 y) :
    (execOp a.eval { dst := some d, op := .slice 9 (.tmp i) (some (.tmp j)) (some (.tmp l)) none, type := t, pos := p, after := f, guard := none }).run Try.prog X = .ok (.value (.string (s.extract x y))) X := by
  have h1 : (x : Int) ≤ (y : Int) := by omega
  have h2 : (y : Int) ≤ (s.size : Int) := by omega
  have hj' : a.tmps[j]?.getD undef = .int .i64 x := by simpa [Act.eval] using hj
  have hl' : a.tmps[l]?.getD undef = .int .i64 y := by simpa [Act.eval] using hl
  have hi' : a.tmps[i]?.getD undef = .string s := by simpa [Act.eval] using hi
  clear hi hj hl
  simp only [execOp]
  go_simp
  intro h
  omega
theorem rn_b1 (X : World) (a : Act) (i d : Nat) (x : ByteArray) (t : TypeId) (p : String) (f : Array Edge) (he : a.eval (.tmp i) = .string x) :
    (execOp a.eval { dst := some d, op := .buildSlice 43 1 #[(0, .tmp i)], type := t, pos := p, after := f, guard := none }).run Try.prog X = .ok (.value (.slice (some ⟨X.heap.size, 0, none⟩) 1 1)) (X.alloc (.cells #[.string x] 9)) := by
  have he' : a.tmps[i]?.getD undef = .string x := by simpa [Act.eval] using he
  clear he
  simp only [execOp]
  go_simp
theorem rn_stT (X : World) (a : Act) (A : Addr) (i j : Nat) (t : TypeId) (p : String) (f : Array Edge) {u : Value} {g : Option Addr} {k c : Nat} (hc : X.cell? A = some u) (hz : X.frozen? A = false) (he : a.eval (.tmp i) = .pointer (some A)) (hv : a.eval (.tmp j) = .slice g k c) :
    (execOp a.eval { dst := none, op := .store 43 (.tmp i) (.tmp j), type := t, pos := p, after := f, guard := none }).run Try.prog X = .ok .skip (X.setCell A (.slice g k c)) := by
  simp only [execOp, he, hv]
  go_simp

def Wa (w wc : World) (s : ByteArray) (A T : Nat) (v : Value) (L : Nat → Bool) (a : Act) (X : World) : Prop :=
  Below wc.heap.size wc X ∧
  (L 0 = true → a.eval (.tmp 63) = .pointer (some ⟨w.heap.size + 1, 2, none⟩)) ∧ (L 1 = true → a.eval (.tmp 64) = v) ∧
  (L 2 = true → a.eval (.tmp 65) = .string s) ∧ (L 3 = true → a.eval (.tmp 66) = .int .i64 A) ∧ (L 4 = true → a.eval (.tmp 67) = .int .i64 ((A + 2 : Nat) : Int)) ∧
  (L 5 = true → a.eval (.tmp 68) = .int .i64 A) ∧ (L 6 = true → a.eval (.tmp 69) = .int .i64 ((A + 2 : Nat) : Int)) ∧ (L 7 = true → a.eval (.tmp 70) = .int .i64 T) ∧
  (L 8 = true → a.eval (.tmp 71) = .int .i64 ((A + 2 + T : Nat) : Int)) ∧ (L 9 = true → a.eval (.tmp 72) = .string (s.extract (A + 2) (A + 2 + T))) ∧
  (L 10 = true → ∃ g, a.eval (.tmp 73) = .slice (some ⟨g, 0, none⟩) 1 1 ∧ g < X.heap.size ∧ X.cell? ⟨g, 0, none⟩ = some (.string (s.extract (A + 2) (A + 2 + T)))) ∧
  (L 10 = true → L 9 = true) ∧ (L 9 = true → L 2 = true) ∧ (L 9 = true → L 4 = true) ∧ (L 9 = true → L 8 = true) ∧ (L 8 = true → L 6 = true) ∧ (L 8 = true → L 7 = true) ∧ (L 4 = true → L 3 = true) ∧ (L 6 = true → L 5 = true) ∧ (L 1 = true → L 0 = true)
def Fa (w : World) (x0 y0 : Value) (v : Value) (k : Nat) (xs : List Value) (g cap : Nat) (X : World) : Prop :=
  Bx3 X w.heap.size (.int .i64 0) (.int .i64 0) (.slice none 0 0) ∧ Bx3 X (w.heap.size + 1) x0 y0 v ∧ X.ownsRow w.heap.size 9 1 (.slice (some ⟨g, 0, none⟩) (k + 1) cap) (k + 1) xs ∧ Below w.heap.size w X
def Ia (w wc : World) (s : ByteArray) (A T : Nat) (x0 y0 v : Value) (k : Nat) (xs : List Value) (a0 : Act) (L : Nat → Bool) (a : Act) (X : World) : Prop :=
  Fr [63, 64, 65, 66, 67, 68, 69, 70, 71, 72, 73, 74, 75] a0 a ∧ (L 11 = true → ∀ q, q < 11 → L q = true) ∧ (L 12 = true → L 11 = true) ∧ (L 13 = true → ∀ q, q < 13 → L q = true) ∧
  (L 11 = false → Wa w wc s A T v L a X) ∧
  (L 11 = true → L 13 = false → ∃ g cap, a.eval (.tmp 74) = .slice (some ⟨g, 0, none⟩) (k + 1) cap ∧ Fa w x0 y0 v k xs g cap X ∧ (L 12 = true → a.eval (.tmp 75) = .pointer (some ⟨w.heap.size + 1, 2, none⟩))) ∧
  (L 13 = true → ∃ g cap, Fa w x0 y0 (.slice (some ⟨g, 0, none⟩) (k + 1) cap) k xs g cap X)

set_option maxHeartbeats 4000000 in
theorem regA {Q : Exit → Act → World → Prop} {ops : Array Oper} {id : Nat} {a0 : Act} {w wc : World} (s : ByteArray) (hs1 : s.size = 1024) (A T : Nat) (hAT : A + 2 + T ≤ 1024) (x0 y0 v : Value) (k : Nat) (hk : k ≤ 1000) (L0 : List ByteArray)
    (HR : Bx3 wc w.heap.size (.int .i64 0) (.int .i64 0) (.slice none 0 0)) (HP : Bx3 wc (w.heap.size + 1) x0 y0 v) (HO : wc.ownsRow w.heap.size 9 1 v k (valsS L0)) (HB : Below w.heap.size w wc)
    (hsz : 75 < a0.tmps.size) (e0 : a0.eval (.tmp 0) = .string s) (e4 : a0.eval (.tmp 4) = .pointer (some ⟨w.heap.size + 1, 0, none⟩)) (e6 : a0.eval (.tmp 6) = .int .i64 A) (e7 : a0.eval (.tmp 7) = .int .i64 T)
    {t0 t1 t2 t3 t4 t5 t6 t7 t8 t9 t10 t11 t12 t13 : TypeId} {p0 p1 p2 p3 p4 p5 p6 p7 p8 p9 p10 p11 p12 p13 : String} {f0 f1 f2 f3 f4 f5 f6 f7 f8 f9 f10 f11 f12 f13 : Array Edge}
    (hops : ops = #[⟨some 63, .fieldAddr 45 (.tmp 4) 2, t0, p0, f0, none⟩, ⟨some 64, .load 43 (.tmp 63), t1, p1, f1, none⟩, ⟨some 65, .move (.tmp 0), t2, p2, f2, none⟩, ⟨some 66, .move (.tmp 6), t3, p3, f3, none⟩,
      ⟨some 67, .binOp .add 3 (.tmp 66) (.const (.int .i64 2)) 3, t4, p4, f4, none⟩, ⟨some 68, .move (.tmp 6), t5, p5, f5, none⟩, ⟨some 69, .binOp .add 3 (.tmp 68) (.const (.int .i64 2)) 3, t6, p6, f6, none⟩,
      ⟨some 70, .move (.tmp 7), t7, p7, f7, none⟩, ⟨some 71, .binOp .add 3 (.tmp 69) (.tmp 70) 3, t8, p8, f8, none⟩, ⟨some 72, .slice 9 (.tmp 65) (some (.tmp 67)) (some (.tmp 71)) none, t9, p9, f9, none⟩,
      ⟨some 73, .buildSlice 43 1 #[(0, .tmp 72)], t10, p10, f10, none⟩, ⟨some 74, .call { callee := .builtin .append, args := #[.tmp 64, .tmp 73], argTypes := #[43, 43] }, t11, p11, f11, none⟩,
      ⟨some 75, .fieldAddr 45 (.tmp 4) 2, t12, p12, f12, none⟩, ⟨none, .store 43 (.tmp 75) (.tmp 74), t13, p13, f13, none⟩])
    (hb : backB ops = true) (d1 : depB f1 [0] = true) (d4 : depB f4 [3] = true) (d6 : depB f6 [5] = true) (d8 : depB f8 [6, 7] = true) (d9 : depB f9 [2, 4, 8] = true) (d10 : depB f10 [9] = true) (d11 : depB f11 [1, 10] = true) (d12 : depB f12 [0, 1, 2, 3, 4, 5, 6, 7, 8, 9, 10, 11] = true) (d13 : depB f13 [0, 1, 2, 3, 4, 5, 6, 7, 8, 9, 10, 11, 12] = true) (hm : Try.prog.follows .mixedOrders = true)
    (hQ : ∀ (u63 u64 u65 u66 u67 u68 u69 u70 u71 u72 u73 u74 u75 : Value) g cap X, Fa w x0 y0 (.slice (some ⟨g, 0, none⟩) (k + 1) cap) k (valsS (L0 ++ [s.extract (A + 2) (A + 2 + T)])) g cap X →
      Q .normal ⟨sets [(63, u63), (64, u64), (65, u65), (66, u66), (67, u67), (68, u68), (69, u69), (70, u70), (71, u71), (72, u72), (73, u73), (74, u74), (75, u75)] a0.tmps, a0.defers⟩ X) :
    (Code.region id ops true).wp Try.prog Q a0 wc := by
  refine wp_region_inv hm (Ia w wc s A T x0 y0 v k (valsS (L0 ++ [s.extract (A + 2) (A + 2 + T)]))) (backB_spec hb) ?_ ?_ ?_
  · refine ⟨Fr.refl _ _, fun h => absurd h (by decide), fun h => absurd h (by decide), fun h => absurd h (by decide), fun _ => ⟨(Below.refl _ _).drew, ?_⟩, fun h => absurd h (by decide), fun h => absurd h (by decide)⟩
    refine ⟨?_, ?_, ?_, ?_, ?_, ?_, ?_, ?_, ?_, ?_, ?_, ?_, ?_, ?_, ?_, ?_, ?_, ?_, ?_, ?_⟩ <;> intro h <;> exact absurd h (by decide)
  · intro L a X hI q o ho hL hd
    obtain ⟨hF, hA, h1211, hC, hW, hM, -⟩ := hI
    have hs : a.tmps.size = a0.tmps.size := hF.2.1
    have E0 : a.eval (.tmp 0) = .string s := by rw [hF.eval (by decide), e0]
    have E4 : a.eval (.tmp 4) = .pointer (some ⟨w.heap.size + 1, 0, none⟩) := by rw [hF.eval (by decide), e4]
    have E6 : a.eval (.tmp 6) = .int .i64 A := by rw [hF.eval (by decide), e6]
    have E7 : a.eval (.tmp 7) = .int .i64 T := by rw [hF.eval (by decide), e7]
    subst hops
    have hq : q < 14 := (Array.getElem?_eq_some_iff.1 ho).1
    have h13 : L 13 = false := by
      cases h : L 13 with
      | false => rfl
      | true =>
        by_cases e : q = 13
        · rw [e, h] at hL; cases hL
        · rw [hC h q (by omega)] at hL; cases hL
    have h11 : q < 12 → L 11 = false := fun hq' => by
      cases h : L 11 with
      | false => rfl
      | true =>
        by_cases e : q = 11
        · rw [e, h] at hL; cases hL
        · rw [hA h q (by omega)] at hL; cases hL
    have h12 : q < 12 → L 12 = false := fun hq' => by
      cases h : L 12 with
      | false => rfl
      | true => have := h1211 h; rw [h11 hq'] at this; cases this
    have n13 : L 13 = true → False := fun h => by rw [h13] at h; cases h
    clear hA hC
    obtain _ | _ | _ | _ | _ | _ | _ | _ | _ | _ | _ | _ | _ | _ | q := q
    · cases ho
      have n11 : L 11 = true → False := fun h => by rw [h11 (by omega)] at h; cases h
      have n12 : L 12 = true → False := fun h => by rw [h12 (by omega)] at h; cases h
      obtain ⟨hB, g0, g1, g2, g3, g4, g5, g6, g7, g8, g9, g10, c10x9, c9x2, c9x4, c9x8, c8x6, c8x7, c4x3, c6x5, c1x0⟩ := hW (h11 (by omega))
      refine wpOp_value rfl rfl (rn_fa X a (w.heap.size + 1) 4 2 63 (.inr (.inr rfl)) _ _ _ E4) ?_
      show Ia _ _ _ _ _ _ _ _ _ _ a0 (upd L 0) (a.put (some 63) _) _
      exact ⟨hF.put (by decide) _, fun h => (n11 h).elim, fun h => (n12 h).elim, fun h => (n13 h).elim, fun _ => ⟨hB, (fun _ => eval_put_same (by omega) _), (fun h => by rw [eval_put_ne (by decide)]; exact g1 h), (fun h => by rw [eval_put_ne (by decide)]; exact g2 h), (fun h => by rw [eval_put_ne (by decide)]; exact g3 h), (fun h => by rw [eval_put_ne (by decide)]; exact g4 h), (fun h => by rw [eval_put_ne (by decide)]; exact g5 h), (fun h => by rw [eval_put_ne (by decide)]; exact g6 h), (fun h => by rw [eval_put_ne (by decide)]; exact g7 h), (fun h => by rw [eval_put_ne (by decide)]; exact g8 h), (fun h => by rw [eval_put_ne (by decide)]; exact g9 h), (fun h => by obtain ⟨g, e, z, r⟩ := g10 h; exact ⟨g, by rw [eval_put_ne (by decide)]; exact e, z, r⟩), (fun h => c10x9 h), (fun h => c9x2 h), (fun h => c9x4 h), (fun h => c9x8 h), (fun h => c8x6 h), (fun h => c8x7 h), (fun h => c4x3 h), (fun h => c6x5 h), (fun _ => upd_same _ _)⟩, fun h => (n11 h).elim, fun h => (n13 h).elim⟩
    · cases ho
      have n11 : L 11 = true → False := fun h => by rw [h11 (by omega)] at h; cases h
      have n12 : L 12 = true → False := fun h => by rw [h12 (by omega)] at h; cases h
      obtain ⟨hB, g0, g1, g2, g3, g4, g5, g6, g7, g8, g9, g10, c10x9, c9x2, c9x4, c9x8, c8x6, c8x7, c4x3, c6x5, c1x0⟩ := hW (h11 (by omega))
      have hdj := depB_spec d1 hd
      refine wpOp_value rfl rfl (rn_ldT X a _ 63 64 _ _ _ (g0 (hdj 0 (by decide))) (HP.below hB).c2) ?_
      show Ia _ _ _ _ _ _ _ _ _ _ a0 (upd L 1) (a.put (some 64) _) _
      exact ⟨hF.put (by decide) _, fun h => (n11 h).elim, fun h => (n12 h).elim, fun h => (n13 h).elim, fun _ => ⟨hB, (fun h => by rw [eval_put_ne (by decide)]; exact g0 h), (fun _ => eval_put_same (by omega) _), (fun h => by rw [eval_put_ne (by decide)]; exact g2 h), (fun h => by rw [eval_put_ne (by decide)]; exact g3 h), (fun h => by rw [eval_put_ne (by decide)]; exact g4 h), (fun h => by rw [eval_put_ne (by decide)]; exact g5 h), (fun h => by rw [eval_put_ne (by decide)]; exact g6 h), (fun h => by rw [eval_put_ne (by decide)]; exact g7 h), (fun h => by rw [eval_put_ne (by decide)]; exact g8 h), (fun h => by rw [eval_put_ne (by decide)]; exact g9 h), (fun h => by obtain ⟨g, e, z, r⟩ := g10 h; exact ⟨g, by rw [eval_put_ne (by decide)]; exact e, z, r⟩), (fun h => c10x9 h), (fun h => c9x2 h), (fun h => c9x4 h), (fun h => c9x8 h), (fun h => c8x6 h), (fun h => c8x7 h), (fun h => c4x3 h), (fun h => c6x5 h), (fun _ => hdj 0 (by decide))⟩, fun h => (n11 h).elim, fun h => (n13 h).elim⟩
    · cases ho
      have n11 : L 11 = true → False := fun h => by rw [h11 (by omega)] at h; cases h
      have n12 : L 12 = true → False := fun h => by rw [h12 (by omega)] at h; cases h
      obtain ⟨hB, g0, g1, g2, g3, g4, g5, g6, g7, g8, g9, g10, c10x9, c9x2, c9x4, c9x8, c8x6, c8x7, c4x3, c6x5, c1x0⟩ := hW (h11 (by omega))
      refine wpOp_value rfl rfl (run_mvP X a 0 65 _ _ _ E0) ?_
      show Ia _ _ _ _ _ _ _ _ _ _ a0 (upd L 2) (a.put (some 65) _) _
      exact ⟨hF.put (by decide) _, fun h => (n11 h).elim, fun h => (n12 h).elim, fun h => (n13 h).elim, fun _ => ⟨hB, (fun h => by rw [eval_put_ne (by decide)]; exact g0 h), (fun h => by rw [eval_put_ne (by decide)]; exact g1 h), (fun _ => eval_put_same (by omega) _), (fun h => by rw [eval_put_ne (by decide)]; exact g3 h), (fun h => by rw [eval_put_ne (by decide)]; exact g4 h), (fun h => by rw [eval_put_ne (by decide)]; exact g5 h), (fun h => by rw [eval_put_ne (by decide)]; exact g6 h), (fun h => by rw [eval_put_ne (by decide)]; exact g7 h), (fun h => by rw [eval_put_ne (by decide)]; exact g8 h), (fun h => by rw [eval_put_ne (by decide)]; exact g9 h), (fun h => by obtain ⟨g, e, z, r⟩ := g10 h; exact ⟨g, by rw [eval_put_ne (by decide)]; exact e, z, r⟩), (fun h => c10x9 h), (fun _ => upd_same _ _), (fun h => c9x4 h), (fun h => c9x8 h), (fun h => c8x6 h), (fun h => c8x7 h), (fun h => c4x3 h), (fun h => c6x5 h), (fun h => c1x0 h)⟩, fun h => (n11 h).elim, fun h => (n13 h).elim⟩
    · cases ho
      have n11 : L 11 = true → False := fun h => by rw [h11 (by omega)] at h; cases h
      have n12 : L 12 = true → False := fun h => by rw [h12 (by omega)] at h; cases h
      obtain ⟨hB, g0, g1, g2, g3, g4, g5, g6, g7, g8, g9, g10, c10x9, c9x2, c9x4, c9x8, c8x6, c8x7, c4x3, c6x5, c1x0⟩ := hW (h11 (by omega))
      refine wpOp_value rfl rfl (run_mvP X a 6 66 _ _ _ E6) ?_
      show Ia _ _ _ _ _ _ _ _ _ _ a0 (upd L 3) (a.put (some 66) _) _
      exact ⟨hF.put (by decide) _, fun h => (n11 h).elim, fun h => (n12 h).elim, fun h => (n13 h).elim, fun _ => ⟨hB, (fun h => by rw [eval_put_ne (by decide)]; exact g0 h), (fun h => by rw [eval_put_ne (by decide)]; exact g1 h), (fun h => by rw [eval_put_ne (by decide)]; exact g2 h), (fun _ => eval_put_same (by omega) _), (fun h => by rw [eval_put_ne (by decide)]; exact g4 h), (fun h => by rw [eval_put_ne (by decide)]; exact g5 h), (fun h => by rw [eval_put_ne (by decide)]; exact g6 h), (fun h => by rw [eval_put_ne (by decide)]; exact g7 h), (fun h => by rw [eval_put_ne (by decide)]; exact g8 h), (fun h => by rw [eval_put_ne (by decide)]; exact g9 h), (fun h => by obtain ⟨g, e, z, r⟩ := g10 h; exact ⟨g, by rw [eval_put_ne (by decide)]; exact e, z, r⟩), (fun h => c10x9 h), (fun h => c9x2 h), (fun h => c9x4 h), (fun h => c9x8 h), (fun h => c8x6 h), (fun h => c8x7 h), (fun _ => upd_same _ _), (fun h => c6x5 h), (fun h => c1x0 h)⟩, fun h => (n11 h).elim, fun h => (n13 h).elim⟩
    · cases ho
      have n11 : L 11 = true → False := fun h => by rw [h11 (by omega)] at h; cases h
      have n12 : L 12 = true → False := fun h => by rw [h12 (by omega)] at h; cases h
      obtain ⟨hB, g0, g1, g2, g3, g4, g5, g6, g7, g8, g9, g10, c10x9, c9x2, c9x4, c9x8, c8x6, c8x7, c4x3, c6x5, c1x0⟩ := hW (h11 (by omega))
      have hdj := depB_spec d4 hd
      refine wpOp_value rfl rfl (rn_a2 X a 66 67 A (by omega) _ _ _ (g3 (hdj 3 (by decide)))) ?_
      show Ia _ _ _ _ _ _ _ _ _ _ a0 (upd L 4) (a.put (some 67) _) _
      exact ⟨hF.put (by decide) _, fun h => (n11 h).elim, fun h => (n12 h).elim, fun h => (n13 h).elim, fun _ => ⟨hB, (fun h => by rw [eval_put_ne (by decide)]; exact g0 h), (fun h => by rw [eval_put_ne (by decide)]; exact g1 h), (fun h => by rw [eval_put_ne (by decide)]; exact g2 h), (fun h => by rw [eval_put_ne (by decide)]; exact g3 h), (fun _ => eval_put_same (by omega) _), (fun h => by rw [eval_put_ne (by decide)]; exact g5 h), (fun h => by rw [eval_put_ne (by decide)]; exact g6 h), (fun h => by rw [eval_put_ne (by decide)]; exact g7 h), (fun h => by rw [eval_put_ne (by decide)]; exact g8 h), (fun h => by rw [eval_put_ne (by decide)]; exact g9 h), (fun h => by obtain ⟨g, e, z, r⟩ := g10 h; exact ⟨g, by rw [eval_put_ne (by decide)]; exact e, z, r⟩), (fun h => c10x9 h), (fun h => c9x2 h), (fun _ => upd_same _ _), (fun h => c9x8 h), (fun h => c8x6 h), (fun h => c8x7 h), (fun _ => hdj 3 (by decide)), (fun h => c6x5 h), (fun h => c1x0 h)⟩, fun h => (n11 h).elim, fun h => (n13 h).elim⟩
    · cases ho
      have n11 : L 11 = true → False := fun h => by rw [h11 (by omega)] at h; cases h
      have n12 : L 12 = true → False := fun h => by rw [h12 (by omega)] at h; cases h
      obtain ⟨hB, g0, g1, g2, g3, g4, g5, g6, g7, g8, g9, g10, c10x9, c9x2, c9x4, c9x8, c8x6, c8x7, c4x3, c6x5, c1x0⟩ := hW (h11 (by omega))
      refine wpOp_value rfl rfl (run_mvP X a 6 68 _ _ _ E6) ?_
      show Ia _ _ _ _ _ _ _ _ _ _ a0 (upd L 5) (a.put (some 68) _) _
      exact ⟨hF.put (by decide) _, fun h => (n11 h).elim, fun h => (n12 h).elim, fun h => (n13 h).elim, fun _ => ⟨hB, (fun h => by rw [eval_put_ne (by decide)]; exact g0 h), (fun h => by rw [eval_put_ne (by decide)]; exact g1 h), (fun h => by rw [eval_put_ne (by decide)]; exact g2 h), (fun h => by rw [eval_put_ne (by decide)]; exact g3 h), (fun h => by rw [eval_put_ne (by decide)]; exact g4 h), (fun _ => eval_put_same (by omega) _), (fun h => by rw [eval_put_ne (by decide)]; exact g6 h), (fun h => by rw [eval_put_ne (by decide)]; exact g7 h), (fun h => by rw [eval_put_ne (by decide)]; exact g8 h), (fun h => by rw [eval_put_ne (by decide)]; exact g9 h), (fun h => by obtain ⟨g, e, z, r⟩ := g10 h; exact ⟨g, by rw [eval_put_ne (by decide)]; exact e, z, r⟩), (fun h => c10x9 h), (fun h => c9x2 h), (fun h => c9x4 h), (fun h => c9x8 h), (fun h => c8x6 h), (fun h => c8x7 h), (fun h => c4x3 h), (fun _ => upd_same _ _), (fun h => c1x0 h)⟩, fun h => (n11 h).elim, fun h => (n13 h).elim⟩
    · cases ho
      have n11 : L 11 = true → False := fun h => by rw [h11 (by omega)] at h; cases h
      have n12 : L 12 = true → False := fun h => by rw [h12 (by omega)] at h; cases h
      obtain ⟨hB, g0, g1, g2, g3, g4, g5, g6, g7, g8, g9, g10, c10x9, c9x2, c9x4, c9x8, c8x6, c8x7, c4x3, c6x5, c1x0⟩ := hW (h11 (by omega))
      have hdj := depB_spec d6 hd
      refine wpOp_value rfl rfl (rn_a2 X a 68 69 A (by omega) _ _ _ (g5 (hdj 5 (by decide)))) ?_
      show Ia _ _ _ _ _ _ _ _ _ _ a0 (upd L 6) (a.put (some 69) _) _
      exact ⟨hF.put (by decide) _, fun h => (n11 h).elim, fun h => (n12 h).elim, fun h => (n13 h).elim, fun _ => ⟨hB, (fun h => by rw [eval_put_ne (by decide)]; exact g0 h), (fun h => by rw [eval_put_ne (by decide)]; exact g1 h), (fun h => by rw [eval_put_ne (by decide)]; exact g2 h), (fun h => by rw [eval_put_ne (by decide)]; exact g3 h), (fun h => by rw [eval_put_ne (by decide)]; exact g4 h), (fun h => by rw [eval_put_ne (by decide)]; exact g5 h), (fun _ => eval_put_same (by omega) _), (fun h => by rw [eval_put_ne (by decide)]; exact g7 h), (fun h => by rw [eval_put_ne (by decide)]; exact g8 h), (fun h => by rw [eval_put_ne (by decide)]; exact g9 h), (fun h => by obtain ⟨g, e, z, r⟩ := g10 h; exact ⟨g, by rw [eval_put_ne (by decide)]; exact e, z, r⟩), (fun h => c10x9 h), (fun h => c9x2 h), (fun h => c9x4 h), (fun h => c9x8 h), (fun _ => upd_same _ _), (fun h => c8x7 h), (fun h => c4x3 h), (fun _ => hdj 5 (by decide)), (fun h => c1x0 h)⟩, fun h => (n11 h).elim, fun h => (n13 h).elim⟩
    · cases ho
      have n11 : L 11 = true → False := fun h => by rw [h11 (by omega)] at h; cases h
      have n12 : L 12 = true → False := fun h => by rw [h12 (by omega)] at h; cases h
      obtain ⟨hB, g0, g1, g2, g3, g4, g5, g6, g7, g8, g9, g10, c10x9, c9x2, c9x4, c9x8, c8x6, c8x7, c4x3, c6x5, c1x0⟩ := hW (h11 (by omega))
      refine wpOp_value rfl rfl (run_mvP X a 7 70 _ _ _ E7) ?_
      show Ia _ _ _ _ _ _ _ _ _ _ a0 (upd L 7) (a.put (some 70) _) _
      exact ⟨hF.put (by decide) _, fun h => (n11 h).elim, fun h => (n12 h).elim, fun h => (n13 h).elim, fun _ => ⟨hB, (fun h => by rw [eval_put_ne (by decide)]; exact g0 h), (fun h => by rw [eval_put_ne (by decide)]; exact g1 h), (fun h => by rw [eval_put_ne (by decide)]; exact g2 h), (fun h => by rw [eval_put_ne (by decide)]; exact g3 h), (fun h => by rw [eval_put_ne (by decide)]; exact g4 h), (fun h => by rw [eval_put_ne (by decide)]; exact g5 h), (fun h => by rw [eval_put_ne (by decide)]; exact g6 h), (fun _ => eval_put_same (by omega) _), (fun h => by rw [eval_put_ne (by decide)]; exact g8 h), (fun h => by rw [eval_put_ne (by decide)]; exact g9 h), (fun h => by obtain ⟨g, e, z, r⟩ := g10 h; exact ⟨g, by rw [eval_put_ne (by decide)]; exact e, z, r⟩), (fun h => c10x9 h), (fun h => c9x2 h), (fun h => c9x4 h), (fun h => c9x8 h), (fun h => c8x6 h), (fun _ => upd_same _ _), (fun h => c4x3 h), (fun h => c6x5 h), (fun h => c1x0 h)⟩, fun h => (n11 h).elim, fun h => (n13 h).elim⟩
    · cases ho
      have n11 : L 11 = true → False := fun h => by rw [h11 (by omega)] at h; cases h
      have n12 : L 12 = true → False := fun h => by rw [h12 (by omega)] at h; cases h
      obtain ⟨hB, g0, g1, g2, g3, g4, g5, g6, g7, g8, g9, g10, c10x9, c9x2, c9x4, c9x8, c8x6, c8x7, c4x3, c6x5, c1x0⟩ := hW (h11 (by omega))
      have hdj := depB_spec d8 hd
      refine wpOp_value rfl rfl (rn_aa X a 69 70 71 (A + 2) T (by omega) (by omega) _ _ _ (g6 (hdj 6 (by decide))) (g7 (hdj 7 (by decide)))) ?_
      show Ia _ _ _ _ _ _ _ _ _ _ a0 (upd L 8) (a.put (some 71) _) _
      exact ⟨hF.put (by decide) _, fun h => (n11 h).elim, fun h => (n12 h).elim, fun h => (n13 h).elim, fun _ => ⟨hB, (fun h => by rw [eval_put_ne (by decide)]; exact g0 h), (fun h => by rw [eval_put_ne (by decide)]; exact g1 h), (fun h => by rw [eval_put_ne (by decide)]; exact g2 h), (fun h => by rw [eval_put_ne (by decide)]; exact g3 h), (fun h => by rw [eval_put_ne (by decide)]; exact g4 h), (fun h => by rw [eval_put_ne (by decide)]; exact g5 h), (fun h => by rw [eval_put_ne (by decide)]; exact g6 h), (fun h => by rw [eval_put_ne (by decide)]; exact g7 h), (fun _ => eval_put_same (by omega) _), (fun h => by rw [eval_put_ne (by decide)]; exact g9 h), (fun h => by obtain ⟨g, e, z, r⟩ := g10 h; exact ⟨g, by rw [eval_put_ne (by decide)]; exact e, z, r⟩), (fun h => c10x9 h), (fun h => c9x2 h), (fun h => c9x4 h), (fun _ => upd_same _ _), (fun _ => hdj 6 (by decide)), (fun _ => hdj 7 (by decide)), (fun h => c4x3 h), (fun h => c6x5 h), (fun h => c1x0 h)⟩, fun h => (n11 h).elim, fun h => (n13 h).elim⟩
    · cases ho
      have n11 : L 11 = true → False := fun h => by rw [h11 (by omega)] at h; cases h
      have n12 : L 12 = true → False := fun h => by rw [h12 (by omega)] at h; cases h
      obtain ⟨hB, g0, g1, g2, g3, g4, g5, g6, g7, g8, g9, g10, c10x9, c9x2, c9x4, c9x8, c8x6, c8x7, c4x3, c6x5, c1x0⟩ := hW (h11 (by omega))
      have hdj := depB_spec d9 hd
      refine wpOp_value rfl rfl (rn_sl X a 65 67 71 72 (A + 2) (A + 2 + T) s (by omega) (by omega) hs1 _ _ _ (g2 (hdj 2 (by decide))) (g4 (hdj 4 (by decide))) (g8 (hdj 8 (by decide)))) ?_
      show Ia _ _ _ _ _ _ _ _ _ _ a0 (upd L 9) (a.put (some 72) _) _
      exact ⟨hF.put (by decide) _, fun h => (n11 h).elim, fun h => (n12 h).elim, fun h => (n13 h).elim, fun _ => ⟨hB, (fun h => by rw [eval_put_ne (by decide)]; exact g0 h), (fun h => by rw [eval_put_ne (by decide)]; exact g1 h), (fun h => by rw [eval_put_ne (by decide)]; exact g2 h), (fun h => by rw [eval_put_ne (by decide)]; exact g3 h), (fun h => by rw [eval_put_ne (by decide)]; exact g4 h), (fun h => by rw [eval_put_ne (by decide)]; exact g5 h), (fun h => by rw [eval_put_ne (by decide)]; exact g6 h), (fun h => by rw [eval_put_ne (by decide)]; exact g7 h), (fun h => by rw [eval_put_ne (by decide)]; exact g8 h), (fun _ => eval_put_same (by omega) _), (fun h => by obtain ⟨g, e, z, r⟩ := g10 h; exact ⟨g, by rw [eval_put_ne (by decide)]; exact e, z, r⟩), (fun _ => upd_same _ _), (fun _ => hdj 2 (by decide)), (fun _ => hdj 4 (by decide)), (fun _ => hdj 8 (by decide)), (fun h => c8x6 h), (fun h => c8x7 h), (fun h => c4x3 h), (fun h => c6x5 h), (fun h => c1x0 h)⟩, fun h => (n11 h).elim, fun h => (n13 h).elim⟩
    · cases ho
      have n11 : L 11 = true → False := fun h => by rw [h11 (by omega)] at h; cases h
      have n12 : L 12 = true → False := fun h => by rw [h12 (by omega)] at h; cases h
      obtain ⟨hB, g0, g1, g2, g3, g4, g5, g6, g7, g8, g9, g10, c10x9, c9x2, c9x4, c9x8, c8x6, c8x7, c4x3, c6x5, c1x0⟩ := hW (h11 (by omega))
      have hdj := depB_spec d10 hd
      have hb' : Below X.heap.size X (X.alloc (.cells #[.string (s.extract (A + 2) (A + 2 + T))] 9)) := (Below.refl _ _).alloc (Nat.le_refl _) _
      refine wpOp_value rfl rfl (rn_b1 X a 72 73 _ _ _ _ (g9 (hdj 9 (by decide)))) ?_
      show Ia _ _ _ _ _ _ _ _ _ _ a0 (upd L 10) (a.put (some 73) _) _
      exact ⟨hF.put (by decide) _, fun h => (n11 h).elim, fun h => (n12 h).elim, fun h => (n13 h).elim, fun _ => ⟨keepBelow hB hb', (fun h => by rw [eval_put_ne (by decide)]; exact g0 h), (fun h => by rw [eval_put_ne (by decide)]; exact g1 h), (fun h => by rw [eval_put_ne (by decide)]; exact g2 h), (fun h => by rw [eval_put_ne (by decide)]; exact g3 h), (fun h => by rw [eval_put_ne (by decide)]; exact g4 h), (fun h => by rw [eval_put_ne (by decide)]; exact g5 h), (fun h => by rw [eval_put_ne (by decide)]; exact g6 h), (fun h => by rw [eval_put_ne (by decide)]; exact g7 h), (fun h => by rw [eval_put_ne (by decide)]; exact g8 h), (fun h => by rw [eval_put_ne (by decide)]; exact g9 h), (fun _ => ⟨X.heap.size, eval_put_same (by omega) _, by simp, by simp only [World.cell?, World.alloc_heap_new]; simp⟩), (fun _ => hdj 9 (by decide)), (fun h => c9x2 h), (fun h => c9x4 h), (fun h => c9x8 h), (fun h => c8x6 h), (fun h => c8x7 h), (fun h => c4x3 h), (fun h => c6x5 h), (fun h => c1x0 h)⟩, fun h => (n11 h).elim, fun h => (n13 h).elim⟩
    · cases ho
      have n12 : L 12 = true → False := fun h => by rw [h12 (by omega)] at h; cases h
      have hW1 := hW (h11 (by omega))
      obtain ⟨hB, g0, g1, g2, g3, g4, g5, g6, g7, g8, g9, g10, c10x9, c9x2, c9x4, c9x8, c8x6, c8x7, c4x3, c6x5, c1x0⟩ := hW1
      have hdj := depB_spec d11 hd
      obtain ⟨gg, x73, zg, cg⟩ := g10 (hdj 10 (by decide))
      have x64 := g1 (hdj 1 (by decide))
      obtain ⟨i0, hi0, hz0, hz1, hz2⟩ := info_parts infoS
      have hoX := own_below HO hB
      have hRX := HR.below hB
      have hPX := HP.below hB
      have hBX := keepBelow HB hB
      unfold wpOp
      simp only [Region.wanted]
      refine Or.inl ?_
      refine wp_append_lies X (.tmp 64) (.tmp 73) 43 rfl w.heap.size 9 i0 (.string ⟨#[]⟩) 1 16 Try.underlying43 hi0 hz0 hz1 hz2 rfl (by decide) v k (valsS L0) x64 hoX ⟨gg, 0, none⟩ 1 1 [.string (s.extract (A + 2) (A + 2 + T))] x73 rfl ?_ ?_ (by decide) (by unfold maxLen; omega) (by omega) hBX.size _ rfl ?_
      · intro j u hu
        cases j with
        | zero => simp at hu; rw [← hu, Addr.add_lit]; exact cg
        | succ j => simp at hu
      · intro u hu
        simp at hu
        rw [hu]
        rfl
      intro g1' c1 X' hown1 hgrow hat hlt1
      rw [valsS_app] at hown1
      show Ia _ _ _ _ _ _ _ _ _ _ a0 (upd L 11) (a.put (some 74) _) _
      have l10 := hdj 10 (by decide)
      have l9 := c10x9 l10
      have l8 := c9x8 l9
      have l4 := c9x4 l9
      have l6 := c8x6 l8
      have all11 : ∀ q, q < 11 → L q = true := by
        intro q hq'
        rcases (show q = 0 ∨ q = 1 ∨ q = 2 ∨ q = 3 ∨ q = 4 ∨ q = 5 ∨ q = 6 ∨ q = 7 ∨ q = 8 ∨ q = 9 ∨ q = 10 by omega) with rfl | rfl | rfl | rfl | rfl | rfl | rfl | rfl | rfl | rfl | rfl
        · exact c1x0 (hdj 1 (by decide))
        · exact hdj 1 (by decide)
        · exact c9x2 l9
        · exact c4x3 l4
        · exact l4
        · exact c6x5 l6
        · exact l6
        · exact c8x7 l8
        · exact l8
        · exact l9
        · exact l10
      refine ⟨hF.put (by decide) _, fun _ q hq' => ?_, fun h => (n12 h).elim, fun h => (n13 h).elim, fun h => ?_, fun _ _ => ⟨g1', c1, eval_put_same (by omega) _, ⟨?_, ?_, hown1, ?_⟩, fun h => (n12 h).elim⟩, fun h => (n13 h).elim⟩
      · rw [upd_ne _ (by omega)]; exact all11 q hq'
      · rw [upd_same] at h; cases h
      · exact hRX.kept hgrow (own_ne hRX hoX).symm
      · exact hPX.kept hgrow (own_ne hPX hoX).symm
      · exact hBX.grown hgrow hBX.size (fun j hj => ((World.ownsRow.lt hoX) j hj).1)
    · cases ho
      have hdj := depB_spec d12 hd
      have l11 := hdj 11 (by decide)
      refine wpOp_value rfl rfl (rn_fa X a (w.heap.size + 1) 4 2 75 (.inr (.inr rfl)) _ _ _ E4) ?_
      show Ia _ _ _ _ _ _ _ _ _ _ a0 (upd L 12) (a.put (some 75) _) _
      obtain ⟨g, cap, x74, hfa, -⟩ := hM l11 h13
      refine ⟨hF.put (by decide) _, fun _ q hq' => ?_, fun _ => l11, fun h => (n13 h).elim, fun h => ?_, fun _ _ => ⟨g, cap, by rw [eval_put_ne (by decide)]; exact x74, hfa, fun _ => eval_put_same (by omega) _⟩, fun h => (n13 h).elim⟩
      · rw [upd_ne _ (by omega)]; exact hdj q (by simp; omega)
      · have h' : L 11 = false := h
        rw [l11] at h'; cases h'
    · cases ho
      have hdj := depB_spec d13 hd
      have l11 := hdj 11 (by decide)
      have l12 := hdj 12 (by decide)
      obtain ⟨g, cap, x74, ⟨hR1, hP1, hO1, hB1⟩, x75⟩ := hM l11 h13
      refine wpOp_skip rfl rfl (rn_stT X a _ 75 74 _ _ _ hP1.c2 (hP1.fz 2) (x75 l12) x74) ?_
      show Ia _ _ _ _ _ _ _ _ _ _ a0 (upd L 13) a _
      refine ⟨hF, fun _ q hq' => ?_, fun _ => l11, fun _ q hq' => ?_, fun h => ?_, fun _ h => ?_, fun _ => ⟨g, cap, hR1.far (by omega) _, hP1.set2 _, own_set hP1 hO1 2 _, hB1.setCell (Nat.le_succ _) _⟩⟩
      · rw [upd_ne _ (by omega)]; exact hdj q (by simp; omega)
      · rw [upd_ne _ (by omega)]; exact hdj q (by simp; omega)
      · have h' : L 11 = false := h
        rw [l11] at h'; cases h'
      · rw [upd_same] at h; cases h
    · cases ho
  · intro L a X hI hall
    subst hops
    obtain ⟨hF, -, -, -, -, -, hfin⟩ := hI
    obtain ⟨g, cap, hfa⟩ := hfin (hall 13 (by simp))
    have hs : a.tmps.size = a0.tmps.size := hF.2.1
    rw [hF.eq [(63, a.eval (.tmp 63)), (64, a.eval (.tmp 64)), (65, a.eval (.tmp 65)), (66, a.eval (.tmp 66)), (67, a.eval (.tmp 67)), (68, a.eval (.tmp 68)), (69, a.eval (.tmp 69)), (70, a.eval (.tmp 70)), (71, a.eval (.tmp 71)), (72, a.eval (.tmp 72)), (73, a.eval (.tmp 73)), (74, a.eval (.tmp 74)), (75, a.eval (.tmp 75))] (by simp) (by simp; omega)]
    exact hQ _ _ _ _ _ _ _ _ _ _ _ _ _ g cap X hfa
end Go.Proofs.Ythimnpobcfkghaa
