/- Numbers as digits to the base 10000, in plain functions: their value; carrying; which is greater. -/
import Derived.Test.YtmkfkjicfmllmaaDoorBase
namespace Go.Proofs.YtmkfkjicfmllmaaDoor
open Go.RowKit

/- the digit, 0 beyond the end -/
def dg (f : Nat → Int) (n i : Nat) : Int := if i < n then f i else 0
def pw (i : Nat) : Int := 10000 ^ i
theorem pw_0 : pw 0 = 1 := rfl
theorem pw_s (i : Nat) : pw (i + 1) = 10000 * pw i := by unfold pw; rw [Int.pow_succ]; omega
theorem pw_pos (i : Nat) : 0 < pw i := by
  induction i with
  | zero => decide
  | succ i ih => rw [pw_s]; omega
/- the value of the first k digits -/
def val (f : Nat → Int) : Nat → Int
  | 0 => 0
  | k + 1 => val f k + f k * pw k
theorem val_s (f : Nat → Int) (k : Nat) : val f (k + 1) = val f k + f k * pw k := rfl
theorem val_congr {f g : Nat → Int} : ∀ {k : Nat}, (∀ i, i < k → f i = g i) → val f k = val g k
  | 0, _ => rfl
  | k + 1, h => by rw [val_s, val_s, val_congr (fun i hi => h i (by omega)), h k (by omega)]
def valid (f : Nat → Int) (n : Nat) : Prop := ∀ i, i < n → 0 ≤ f i ∧ f i < 10000
theorem val_bound {f : Nat → Int} : ∀ {k : Nat}, valid f k → 0 ≤ val f k ∧ val f k < pw k
  | 0, _ => by simp [val, pw]
  | k + 1, h => by
    have ih := val_bound (k := k) (fun i hi => h i (by omega))
    have hk := h k (by omega)
    have hp := pw_pos k
    rw [val_s, pw_s]
    have h1 : 0 ≤ f k * pw k := Int.mul_nonneg hk.1 (by omega)
    have h2 : f k * pw k ≤ 9999 * pw k := Int.mul_le_mul_of_nonneg_right (by omega) (by omega)
    omega
theorem val_zero {f : Nat → Int} {k : Nat} : ∀ {n : Nat}, k ≤ n → (∀ i, k ≤ i → i < n → f i = 0) → val f n = val f k
  | 0, h, _ => by have : k = 0 := by omega
                  subst this; rfl
  | n + 1, h, hz => by
    rcases Nat.lt_or_ge n k with h' | h'
    · have : k = n + 1 := by omega
      subst this; rfl
    · rw [val_s, hz n h' (by omega), val_zero h' (fun i h1 h2 => hz i h1 (by omega))]; omega
theorem val_dg (f : Nat → Int) (n : Nat) {m : Nat} (h : n ≤ m) : val (dg f n) m = val f n := by
  rw [val_zero h (fun i h1 _ => by unfold dg; rw [if_neg (by omega)])]
  exact val_congr (fun i hi => by unfold dg; rw [if_pos hi])
theorem dg_valid {f : Nat → Int} {n : Nat} (h : valid f n) (i : Nat) : 0 ≤ dg f n i ∧ dg f n i < 10000 := by
  unfold dg; split
  · exact h i ‹_›
  · omega
/- normalized: the highest digit is not 0 -/
def norm (f : Nat → Int) (n : Nat) : Prop := n = 0 ∨ ¬ f (n - 1) = 0
theorem norm_low {f : Nat → Int} {n : Nat} (hv : valid f n) (hn : norm f n) (h0 : 0 < n) : pw (n - 1) ≤ val f n := by
  have e : n = (n - 1) + 1 := by omega
  have hk := hv (n - 1) (by omega)
  have hb := (val_bound (k := n - 1) (fun i hi => hv i (by omega))).1
  have hp := pw_pos (n - 1)
  have : 1 ≤ f (n - 1) := by
    rcases hn with h | h
    · omega
    · omega
  rw [e, val_s]
  simp only [Nat.add_sub_cancel]
  have := Int.mul_le_mul_of_nonneg_right this (Int.le_of_lt hp)
  omega
theorem pw_mono {i j : Nat} (h : i ≤ j) : pw i ≤ pw j := by
  induction j with
  | zero => have : i = 0 := by omega
            subst this; exact Int.le_refl _
  | succ j ih =>
    rcases Nat.lt_or_ge j i with h' | h'
    · have : i = j + 1 := by omega
      subst this; exact Int.le_refl _
    · have := ih h'
      have := pw_pos j
      rw [pw_s]; omega
theorem longer {f g : Nat → Int} {n m : Nat} (hf : valid f n) (hn : norm f n) (hg : valid g m) (h : m < n) : val g m < val f n := by
  have h1 := norm_low hf hn (by omega)
  have h2 := (val_bound hg).2
  have h3 := pw_mono (show m ≤ n - 1 by omega)
  omega
/- from the top down to k they are the same -/
theorem same_top {f g : Nat → Int} {n : Nat} : ∀ {k : Nat}, k ≤ n → (∀ i, k ≤ i → i < n → f i = g i) → val f n - val f k = val g n - val g k := by
  intro k hk h
  induction n with
  | zero => have : k = 0 := by omega
            subst this; rfl
  | succ n ih =>
    rcases Nat.lt_or_ge n k with h' | h'
    · have : k = n + 1 := by omega
      subst this; omega
    · have := ih h' (fun i h1 h2 => h i h1 (by omega))
      rw [val_s, val_s, h n h' (by omega)]; omega
theorem top_less {f g : Nat → Int} {n k : Nat} (hf : valid f n) (hg : valid g n) (hk : k < n) (h : ∀ i, k + 1 ≤ i → i < n → f i = g i) (hlt : f k < g k) : val f n < val g n := by
  have h1 := same_top (show k + 1 ≤ n by omega) h
  have b1 := (val_bound (k := k) (fun i hi => hf i (by omega))).2
  have b2 := (val_bound (k := k) (fun i hi => hg i (by omega))).1
  rw [val_s, val_s] at h1
  have : f k * pw k + pw k ≤ g k * pw k := by
    have := Int.mul_le_mul_of_nonneg_right (show f k + 1 ≤ g k by omega) (Int.le_of_lt (pw_pos k))
    rw [Int.add_mul] at this; omega
  omega
end Go.Proofs.YtmkfkjicfmllmaaDoor
