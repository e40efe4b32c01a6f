/- The contracts of relstoreref.OrderRows, relstorelaw.sameValues and back at lists that may be empty. -/
import Derived.Test.YtmkfkjicfmllmabRows0
import Derived.Test.YtmkfkjicfmllmabTruth
namespace Go.Proofs.Ytmkfkjicfmllmab
open Go.RowKit
attribute [local go_sem ↓] Go.wp_at_zero Go.wp_at_succ

/- a list as a slice: empty, or values in a block -/
def LiesA (w : World) (a : Option Addr) (n : Nat) (K N : Nat → Int) (S : Nat → ByteArray) : Prop := n = 0 ∨ ∃ b off, a = some ⟨b, off, none⟩ ∧ Lies w b off n K N S
theorem LiesA.below {w X : World} {a : Option Addr} {n : Nat} {K N : Nat → Int} {S : Nat → ByteArray} (h : LiesA w a n K N S) (hb : Below w.heap.size w X) : LiesA X a n K N S := by
  rcases h with h | ⟨b, off, e, h⟩
  · exact Or.inl h
  · exact Or.inr ⟨b, off, e, h.below hb⟩
theorem ordL_0 (f : Nat → Int) (m : Nat) : ordL f 0 m = signI (decide (0 < m)) false := by
  rw [ordL_end (by rw [Nat.zero_min]; rfl)]
  unfold cmpI signI
  by_cases h : 0 < m
  · rw [if_pos (by omega)]; simp [h]
  · rw [if_neg (by omega), if_neg (by omega)]; simp [h]
theorem ordL_m0 (f : Nat → Int) {n : Nat} (h : 0 < n) : ordL f n 0 = 1 := by
  rw [ordL_end (by rw [Nat.min_zero]; rfl)]
  unfold cmpI; rw [if_neg (by omega), if_pos (by omega)]

end Go.Proofs.Ytmkfkjicfmllmab
