/- Two values of three cells each are written over two boxes: what lies there then, and that nothing older is changed. -/
import Derived.Test.YthimnpobcfkghaaBase
namespace Go.Proofs.Ythimnpobcfkghaa
open Go.RowKit

def put3 (w : World) (A : Nat) (x0 x1 x2 : Value) : World := ((w.setCell ⟨A, 0, none⟩ x0).setCell ⟨A, 1, none⟩ x1).setCell ⟨A, 2, none⟩ x2

theorem put3_below {B0 : Nat} {w W : World} (hb : Below B0 w W) {A : Nat} (hA : B0 ≤ A) (x0 x1 x2 : Value) : Below B0 w (put3 W A x0 x1 x2) :=
  ((hb.setCell hA _).setCell hA _).setCell hA _

theorem put3_size (w : World) (A : Nat) (x0 x1 x2 : Value) : (put3 w A x0 x1 x2).heap.size = w.heap.size := by
  simp [put3]

theorem put3_at {W : World} {A : Nat} {a0 a1 a2 : Value} (h0 : W.cell? ⟨A, 0, none⟩ = some a0) (h1 : W.cell? ⟨A, 1, none⟩ = some a1) (h2 : W.cell? ⟨A, 2, none⟩ = some a2) (x0 x1 x2 : Value) :
    (put3 W A x0 x1 x2).cell? ⟨A, 0, none⟩ = some x0 ∧ (put3 W A x0 x1 x2).cell? ⟨A, 1, none⟩ = some x1 ∧ (put3 W A x0 x1 x2).cell? ⟨A, 2, none⟩ = some x2 := by
  unfold put3
  refine ⟨by go_simp, by go_simp, by go_simp⟩

theorem put3_far (W : World) {A B : Nat} (h : B ≠ A) (o : Nat) (x0 x1 x2 : Value) : (put3 W A x0 x1 x2).cell? ⟨B, o, none⟩ = W.cell? ⟨B, o, none⟩ := by
  unfold put3
  go_simp

theorem twoPut {w W0 W2 : World} {A B : Nat} {a0 a1 a2 b0 b1 b2 : Value} (hb : Below w.heap.size w W0) (h2 : Below W0.heap.size W0 W2) (hA : w.heap.size ≤ A) (hB : w.heap.size ≤ B) (hA2 : A < W0.heap.size) (hB2 : B < W0.heap.size) (hne : A ≠ B)
    (ca0 : W0.cell? ⟨A, 0, none⟩ = some a0) (ca1 : W0.cell? ⟨A, 1, none⟩ = some a1) (ca2 : W0.cell? ⟨A, 2, none⟩ = some a2) (cb0 : W0.cell? ⟨B, 0, none⟩ = some b0) (cb1 : W0.cell? ⟨B, 1, none⟩ = some b1) (cb2 : W0.cell? ⟨B, 2, none⟩ = some b2) (x0 x1 x2 y0 y1 y2 : Value) :
    (put3 (put3 W2 A x0 x1 x2) B y0 y1 y2).cell? ⟨A, 0, none⟩ = some x0 ∧ (put3 (put3 W2 A x0 x1 x2) B y0 y1 y2).cell? ⟨A, 1, none⟩ = some x1 ∧ (put3 (put3 W2 A x0 x1 x2) B y0 y1 y2).cell? ⟨A, 2, none⟩ = some x2 ∧
    (put3 (put3 W2 A x0 x1 x2) B y0 y1 y2).cell? ⟨B, 0, none⟩ = some y0 ∧ (put3 (put3 W2 A x0 x1 x2) B y0 y1 y2).cell? ⟨B, 1, none⟩ = some y1 ∧ (put3 (put3 W2 A x0 x1 x2) B y0 y1 y2).cell? ⟨B, 2, none⟩ = some y2 ∧
    Below w.heap.size w (put3 (put3 W2 A x0 x1 x2) B y0 y1 y2) ∧ W0.heap.size ≤ (put3 (put3 W2 A x0 x1 x2) B y0 y1 y2).heap.size := by
  obtain ⟨hc, -⟩ := bcell h2
  have hs := hb.size
  have p := put3_at (W := W2) (A := A) (by rw [hc _ _ hA2, ca0]) (by rw [hc _ _ hA2, ca1]) (by rw [hc _ _ hA2, ca2]) x0 x1 x2
  have q := put3_at (W := put3 W2 A x0 x1 x2) (A := B) (by rw [put3_far _ (Ne.symm hne), hc _ _ hB2, cb0]) (by rw [put3_far _ (Ne.symm hne), hc _ _ hB2, cb1]) (by rw [put3_far _ (Ne.symm hne), hc _ _ hB2, cb2]) y0 y1 y2
  refine ⟨by rw [put3_far _ hne]; exact p.1, by rw [put3_far _ hne]; exact p.2.1, by rw [put3_far _ hne]; exact p.2.2, q.1, q.2.1, q.2.2, put3_below (put3_below (hb.trans (h2.mono hs)) hA _ _ _) hB _ _ _, ?_⟩
  rw [put3_size, put3_size]
  exact h2.size
end Go.Proofs.Ythimnpobcfkghaa
