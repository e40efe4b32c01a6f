/- The order of values is one order: it turns about, nothing stands ahead of itself, it is handed on. The laws of truths of three kinds. -/
import Derived.Test.YtdhfpfkhhmdfgabTruth
namespace Go.Proofs.Ytdhfpfkhhmdfgab
open Go.RowKit

theorem cmpI_cases (x y : Int) : (x < y ∧ cmpI x y = -1) ∨ (x = y ∧ cmpI x y = 0) ∨ (y < x ∧ cmpI x y = 1) := by
  unfold cmpI
  rcases (show x < y ∨ x = y ∨ y < x by omega) with h | h | h
  · exact Or.inl ⟨h, by simp [h]⟩
  · exact Or.inr (Or.inl ⟨h, by simp [h]⟩)
  · exact Or.inr (Or.inr ⟨h, by simp [h, show ¬ x < y by omega]⟩)
theorem bl_trans {x y z : List UInt8} (h : Op.bytesLess x y = true) (h' : Op.bytesLess y z = true) : Op.bytesLess x z = true := by
  rw [bl_lt, decide_eq_true_iff] at *
  exact List.lt_trans h h'
theorem cmpS_cases (x y : ByteArray) : (Op.bytesLess x.toList y.toList = true ∧ Op.bytesLess y.toList x.toList = false ∧ cmpS x y = -1) ∨ (x.toList = y.toList ∧ cmpS x y = 0) ∨ (Op.bytesLess y.toList x.toList = true ∧ Op.bytesLess x.toList y.toList = false ∧ cmpS x y = 1) := by
  unfold cmpS
  cases b : Op.bytesLess x.toList y.toList with
  | true => exact Or.inl ⟨rfl, bl_asymm b, by simp⟩
  | false =>
    by_cases e : x.toList = y.toList
    · exact Or.inr (Or.inl ⟨e, by simp [e]⟩)
    · exact Or.inr (Or.inr ⟨bl_tri b e, rfl, by simp [e]⟩)
theorem cmpS_neg (x y : ByteArray) : cmpS y x = -cmpS x y := by
  rcases cmpS_cases x y with ⟨a, b, c⟩ | ⟨a, c⟩ | ⟨a, b, c⟩
  · rw [c]; unfold cmpS; simp [b]; intro h; rw [h, bl_irr] at a; cases a
  · rw [c]; unfold cmpS; simp [a, bl_irr]
  · rw [c]; unfold cmpS; simp [a]
theorem cmpS_eq {x y z : ByteArray} (h : x.toList = y.toList) : cmpS x z = cmpS y z ∧ cmpS z x = cmpS z y := by
  unfold cmpS; rw [h]; exact ⟨rfl, rfl⟩
theorem cmpS_lt_trans {x y z : ByteArray} (h : cmpS x y = -1) (h' : cmpS y z = -1) : cmpS x z = -1 := by
  rcases cmpS_cases x y with ⟨a, b, c⟩ | ⟨a, c⟩ | ⟨a, b, c⟩ <;> rw [c] at h <;> try (exact absurd h (by decide))
  rcases cmpS_cases y z with ⟨a', b', c'⟩ | ⟨a', c'⟩ | ⟨a', b', c'⟩ <;> rw [c'] at h' <;> try (exact absurd h' (by decide))
  unfold cmpS; simp [bl_trans a a']

theorem ord_range (k n : Int) (s : ByteArray) (k' n' : Int) (s' : ByteArray) : ordV k n s k' n' s' = -1 ∨ ordV k n s k' n' s' = 0 ∨ ordV k n s k' n' s' = 1 := by
  unfold ordV orI
  rcases cmpI_cases (ck k) (ck k') with ⟨_, a⟩ | ⟨_, a⟩ | ⟨_, a⟩ <;> rcases cmpI_cases (cn k n) (cn k' n') with ⟨_, b⟩ | ⟨_, b⟩ | ⟨_, b⟩ <;> rcases cmpS_cases (cs k s) (cs k' s') with ⟨_, _, c⟩ | ⟨_, c⟩ | ⟨_, _, c⟩ <;> rw [a, b, c] <;> decide
theorem cmpI_neg (x y : Int) : cmpI y x = -cmpI x y := by
  rcases cmpI_cases x y with ⟨h, a⟩ | ⟨h, a⟩ | ⟨h, a⟩ <;> rcases cmpI_cases y x with ⟨h', b⟩ | ⟨h', b⟩ | ⟨h', b⟩ <;> rw [a, b] <;> omega
theorem ord_neg (k n : Int) (s : ByteArray) (k' n' : Int) (s' : ByteArray) : ordV k' n' s' k n s = -ordV k n s k' n' s' := by
  unfold ordV
  rw [cmpI_neg (ck k) (ck k'), cmpI_neg (cn k n) (cn k' n'), cmpS_neg (cs k s) (cs k' s')]
  unfold orI
  rcases cmpI_cases (ck k) (ck k') with ⟨_, a⟩ | ⟨_, a⟩ | ⟨_, a⟩ <;> rcases cmpI_cases (cn k n) (cn k' n') with ⟨_, b⟩ | ⟨_, b⟩ | ⟨_, b⟩ <;> rcases cmpS_cases (cs k s) (cs k' s') with ⟨_, _, c⟩ | ⟨_, c⟩ | ⟨_, _, c⟩ <;> rw [a, b, c] <;> decide
theorem ord_self (k n : Int) (s : ByteArray) : ordV k n s k n s = 0 := by
  have := ord_neg k n s k n s
  omega
theorem cmpI_trans {x y z : Int} : (cmpI x y = 0 → cmpI x z = cmpI y z) ∧ (cmpI y z = 0 → cmpI x z = cmpI x y) ∧ (cmpI x y = -1 → cmpI y z = -1 → cmpI x z = -1) := by
  rcases cmpI_cases x y with ⟨h, a⟩ | ⟨h, a⟩ | ⟨h, a⟩ <;> rcases cmpI_cases y z with ⟨h', b⟩ | ⟨h', b⟩ | ⟨h', b⟩ <;> rcases cmpI_cases x z with ⟨h'', c⟩ | ⟨h'', c⟩ | ⟨h'', c⟩ <;> rw [a, b, c] <;> refine ⟨?_, ?_, ?_⟩ <;> intros <;> omega
theorem cmpS_trans {x y z : ByteArray} : (cmpS x y = 0 → cmpS x z = cmpS y z) ∧ (cmpS y z = 0 → cmpS x z = cmpS x y) ∧ (cmpS x y = -1 → cmpS y z = -1 → cmpS x z = -1) := by
  refine ⟨fun h => ?_, fun h => ?_, cmpS_lt_trans⟩
  · rcases cmpS_cases x y with ⟨_, _, c⟩ | ⟨a, _⟩ | ⟨_, _, c⟩
    · rw [c] at h; exact absurd h (by decide)
    · exact (cmpS_eq a).1
    · rw [c] at h; exact absurd h (by decide)
  · rcases cmpS_cases y z with ⟨_, _, c⟩ | ⟨a, _⟩ | ⟨_, _, c⟩
    · rw [c] at h; exact absurd h (by decide)
    · exact (cmpS_eq a).2.symm
    · rw [c] at h; exact absurd h (by decide)
theorem cmpI_r (x y : Int) : cmpI x y = -1 ∨ cmpI x y = 0 ∨ cmpI x y = 1 := by
  rcases cmpI_cases x y with ⟨_, a⟩ | ⟨_, a⟩ | ⟨_, a⟩ <;> simp [a]
theorem cmpS_r (x y : ByteArray) : cmpS x y = -1 ∨ cmpS x y = 0 ∨ cmpS x y = 1 := by
  rcases cmpS_cases x y with ⟨_, _, a⟩ | ⟨_, a⟩ | ⟨_, _, a⟩ <;> simp [a]
theorem lex3 {a1 a2 a3 y1 y2 y3 : Int} (t : (a1 = 0 → a3 = a2) ∧ (a2 = 0 → a3 = a1) ∧ (a1 = -1 → a2 = -1 → a3 = -1)) (r1 : a1 = -1 ∨ a1 = 0 ∨ a1 = 1) (r2 : a2 = -1 ∨ a2 = 0 ∨ a2 = 1)
    (h : y1 ≤ 0 → y2 ≤ 0 → y3 ≤ 0 ∧ (y1 = 0 → y2 = 0 → y3 = 0)) :
    (if a1 = 0 then y1 else a1) ≤ 0 → (if a2 = 0 then y2 else a2) ≤ 0 → (if a3 = 0 then y3 else a3) ≤ 0 ∧ ((if a1 = 0 then y1 else a1) = 0 → (if a2 = 0 then y2 else a2) = 0 → (if a3 = 0 then y3 else a3) = 0) := by
  obtain ⟨t1, t2, t3⟩ := t
  rcases r1 with rfl | rfl | rfl <;> rcases r2 with rfl | rfl | rfl
  · rw [t3 rfl rfl]; intro _ _; exact ⟨by simp, fun q => absurd q (by simp)⟩
  · rw [t2 rfl]; intro _ _; exact ⟨by simp, fun q => absurd q (by simp)⟩
  · intro _ q; exact absurd q (by simp)
  · rw [t1 rfl]; intro _ _; exact ⟨by simp, fun _ q => absurd q (by simp)⟩
  · rw [t1 rfl]; simpa using h
  · intro _ q; exact absurd q (by simp)
  · intro q; exact absurd q (by simp)
  · intro q; exact absurd q (by simp)
  · intro q; exact absurd q (by simp)
theorem ord_le (k n : Int) (s : ByteArray) (k' n' : Int) (s' : ByteArray) (k'' n'' : Int) (s'' : ByteArray) (h : ordV k n s k' n' s' ≤ 0) (h' : ordV k' n' s' k'' n'' s'' ≤ 0) :
    ordV k n s k'' n'' s'' ≤ 0 ∧ (ordV k n s k' n' s' = 0 → ordV k' n' s' k'' n'' s'' = 0 → ordV k n s k'' n'' s'' = 0) := by
  unfold ordV orI at *
  refine lex3 cmpI_trans (cmpI_r _ _) (cmpI_r _ _) (lex3 cmpI_trans (cmpI_r _ _) (cmpI_r _ _) ?_) h h'
  intro p q
  have t3 := cmpS_trans (x := cs k s) (y := cs k' s') (z := cs k'' s'')
  have r5 := cmpS_r (cs k s) (cs k' s')
  have r6 := cmpS_r (cs k' s') (cs k'' s'')
  generalize cmpS (cs k s) (cs k' s') = c1 at *
  generalize cmpS (cs k' s') (cs k'' s'') = c2 at *
  generalize cmpS (cs k s) (cs k'' s'') = c3 at *
  omega

theorem th_both (a b : Int) : th (tk (both a b)) (tn (both a b)) = both a b := by
  unfold both; split
  · decide
  · split <;> decide
theorem th_either (a b : Int) : th (tk (either a b)) (tn (either a b)) = either a b := by
  unfold either; split
  · decide
  · split <;> decide
theorem th_inot (a : Int) : th (tk (inot a)) (tn (inot a)) = inot a := by
  unfold inot; split
  · decide
  · split <;> decide
theorem morgan (k n k' n' : Int) : inot (both (th k n) (th k' n')) = either (inot (th k n)) (inot (th k' n')) := by
  rcases th_range k n with a | a | a <;> rcases th_range k' n' with b | b | b <;> rw [a, b] <;> decide
theorem both_comm (a b : Int) : both a b = both b a := by
  unfold both; simp only [Or.comm, And.comm]
theorem either_assoc (k n k' n' k'' n'' : Int) : either (either (th k n) (th k' n')) (th k'' n'') = either (th k n) (either (th k' n') (th k'' n'')) := by
  rcases th_range k n with a | a | a <;> rcases th_range k' n' with b | b | b <;> rcases th_range k'' n'' with c | c | c <;> rw [a, b, c] <;> decide
end Go.Proofs.Ytdhfpfkhhmdfgab
