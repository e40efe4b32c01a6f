/- Three boxes with three values in them, above all that was there: what stays so behind a call that changes nothing old. -/
import Derived.Test.YtdhfpfkhhmdfgabLess
namespace Go.Proofs.Ytdhfpfkhhmdfgab
open Go.RowKit

def Inv3 (w X : World) (k n : Int) (s : ByteArray) (k' n' : Int) (s' : ByteArray) (k'' n'' : Int) (s'' : ByteArray) : Prop := Below w.heap.size w X ∧ w.heap.size + 1 + 1 < X.heap.size ∧ X.cell? ⟨w.heap.size, 0, none⟩ = some (.int .i64 (k)) ∧ X.cell? ⟨w.heap.size, 1, none⟩ = some (.int .i64 (n)) ∧ X.cell? ⟨w.heap.size, 2, none⟩ = some (.string (s)) ∧ X.cell? ⟨w.heap.size + 1, 0, none⟩ = some (.int .i64 (k')) ∧ X.cell? ⟨w.heap.size + 1, 1, none⟩ = some (.int .i64 (n')) ∧ X.cell? ⟨w.heap.size + 1, 2, none⟩ = some (.string (s')) ∧ X.cell? ⟨w.heap.size + 1 + 1, 0, none⟩ = some (.int .i64 (k'')) ∧ X.cell? ⟨w.heap.size + 1 + 1, 1, none⟩ = some (.int .i64 (n'')) ∧ X.cell? ⟨w.heap.size + 1 + 1, 2, none⟩ = some (.string (s''))
theorem Inv3.step {w X Y : World} {k n : Int} {s : ByteArray} {k' n' : Int} {s' : ByteArray} {k'' n'' : Int} {s'' : ByteArray} (h : Inv3 w X k n s k' n' s' k'' n'' s'') (hb : Below X.heap.size X Y) : Inv3 w Y k n s k' n' s' k'' n'' s'' := by
  obtain ⟨hB, z, a0, a1, a2, b0, b1, b2, c0, c1, c2⟩ := h
  exact ⟨keepBelow hB hb, keepSize hb z, keepCell hb (Nat.lt_of_succ_lt (Nat.lt_of_succ_lt (by assumption))) (by assumption), keepCell hb (Nat.lt_of_succ_lt (Nat.lt_of_succ_lt (by assumption))) (by assumption), keepCell hb (Nat.lt_of_succ_lt (Nat.lt_of_succ_lt (by assumption))) (by assumption), keepCell hb (Nat.lt_of_succ_lt (by assumption)) (by assumption), keepCell hb (Nat.lt_of_succ_lt (by assumption)) (by assumption), keepCell hb (Nat.lt_of_succ_lt (by assumption)) (by assumption), keepCell hb (by assumption) (by assumption), keepCell hb (by assumption) (by assumption), keepCell hb (by assumption) (by assumption)⟩
theorem Inv3.out {w X : World} {k n : Int} {s : ByteArray} {k' n' : Int} {s' : ByteArray} {k'' n'' : Int} {s'' : ByteArray} (h : Inv3 w X k n s k' n' s' k'' n'' s'') : w.heap.size < X.heap.size ∧ w.heap.size + 1 < X.heap.size ∧ w.heap.size + 1 + 1 < X.heap.size ∧ X.cell? ⟨w.heap.size, 0, none⟩ = some (.int .i64 (k)) ∧ X.cell? ⟨w.heap.size, 1, none⟩ = some (.int .i64 (n)) ∧ X.cell? ⟨w.heap.size, 2, none⟩ = some (.string (s)) ∧ X.cell? ⟨w.heap.size + 1, 0, none⟩ = some (.int .i64 (k')) ∧ X.cell? ⟨w.heap.size + 1, 1, none⟩ = some (.int .i64 (n')) ∧ X.cell? ⟨w.heap.size + 1, 2, none⟩ = some (.string (s')) ∧ X.cell? ⟨w.heap.size + 1 + 1, 0, none⟩ = some (.int .i64 (k'')) ∧ X.cell? ⟨w.heap.size + 1 + 1, 1, none⟩ = some (.int .i64 (n'')) ∧ X.cell? ⟨w.heap.size + 1 + 1, 2, none⟩ = some (.string (s'')) := by
  obtain ⟨hB, z, a0, a1, a2, b0, b1, b2, c0, c1, c2⟩ := h
  exact ⟨by omega, by omega, z, a0, a1, a2, b0, b1, b2, c0, c1, c2⟩
theorem Inv3.drew {w X : World} {k n : Int} {s : ByteArray} {k' n' : Int} {s' : ByteArray} {k'' n'' : Int} {s'' : ByteArray} (h : Inv3 w X k n s k' n' s' k'' n'' s'') : Inv3 w X.drew k n s k' n' s' k'' n'' s'' := h.step (Below.refl _ _).drew
theorem Inv3.alloc {w X : World} {k n : Int} {s : ByteArray} {k' n' : Int} {s' : ByteArray} {k'' n'' : Int} {s'' : ByteArray} (h : Inv3 w X k n s k' n' s' k'' n'' s'') (o : Obj) : Inv3 w (X.alloc o) k n s k' n' s' k'' n'' s'' := h.step ((Below.refl _ _).alloc (Nat.le_refl _) _)
/- a store into a block above the three boxes -/
theorem Inv3.set {w X : World} {k n : Int} {s : ByteArray} {k' n' : Int} {s' : ByteArray} {k'' n'' : Int} {s'' : ByteArray} (h : Inv3 w X k n s k' n' s' k'' n'' s'') {b : Nat} (o : Nat) (v : Value) (hb : w.heap.size + 1 + 1 < b) : Inv3 w (X.setCell ⟨b, o, none⟩ v) k n s k' n' s' k'' n'' s'' := by
  obtain ⟨hB, z, a0, a1, a2, b0, b1, b2, c0, c1, c2⟩ := h
  have hs : Below (w.heap.size + 1 + 1 + 1) X (X.setCell ⟨b, o, none⟩ v) := (Below.refl _ _).setCell (by exact hb) _
  have g : ∀ A q, A < w.heap.size + 1 + 1 + 1 → (X.setCell ⟨b, o, none⟩ v).cell? ⟨A, q, none⟩ = X.cell? ⟨A, q, none⟩ := fun A q h => hs.cell (p := ⟨A, q, none⟩) h
  refine ⟨hB.setCell (show w.heap.size ≤ b by omega) _, Nat.lt_of_lt_of_le z hs.size, ?_⟩
  rw [g _ _ (by omega), g _ _ (by omega), g _ _ (by omega), g _ _ (by omega), g _ _ (by omega), g _ _ (by omega), g _ _ (by omega), g _ _ (by omega), g _ _ (by omega)]
  exact ⟨a0, a1, a2, b0, b1, b2, c0, c1, c2⟩
end Go.Proofs.Ytdhfpfkhhmdfgab
