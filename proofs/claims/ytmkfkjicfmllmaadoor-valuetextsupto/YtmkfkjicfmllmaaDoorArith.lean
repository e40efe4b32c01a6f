/- Plain arithmetic of 64 bits: when a sum, a difference, a product, a quotient fits, and that the tests of package value tell it. -/
import Derived.Test.YtmkfkjicfmllmaaDoorBase
namespace Go.Proofs.YtmkfkjicfmllmaaDoor
open Go.RowKit

def lo : Int := -9223372036854775808
def hi : Int := 9223372036854775807
def fits (z : Int) : Bool := decide (lo ≤ z) && decide (z ≤ hi)
theorem fits_iff (z : Int) : fits z = true ↔ -9223372036854775808 ≤ z ∧ z ≤ 9223372036854775807 := by
  unfold fits lo hi; rw [Bool.and_eq_true, decide_eq_true_iff, decide_eq_true_iff]
theorem fits_not (z : Int) : fits z = false ↔ ¬ (-9223372036854775808 ≤ z ∧ z ≤ 9223372036854775807) := by
  rw [← fits_iff]; simp
theorem fits_wrap {z : Int} (h : fits z = true) : wrap64 z = z := by
  rw [fits_iff] at h; unfold wrap64; omega
theorem wrap_fits (z : Int) : fits (wrap64 z) = true := by
  rw [fits_iff]; unfold wrap64; omega

theorem ok_add {x y : Int} (hx : fits x = true) (hy : fits y = true) : (decide (wrap64 (x + y) < x) == decide (y < 0)) = fits (x + y) := by
  rw [fits_iff] at hx hy
  cases hf : fits (x + y) with
  | true =>
    rw [fits_wrap hf]
    by_cases h : y < 0
    · have : x + y < x := by omega
      simp [h, this]
    · have : ¬ x + y < x := by omega
      simp only [h, this]; rfl
  | false =>
    rw [fits_not] at hf
    by_cases h : y < 0
    · have : ¬ wrap64 (x + y) < x := by unfold wrap64; omega
      simp [h, this]
    · have : wrap64 (x + y) < x := by unfold wrap64; omega
      simp [h, this]

theorem ok_sub {x y : Int} (hx : fits x = true) (hy : fits y = true) : (decide (x < wrap64 (x - y)) == decide (y < 0)) = fits (x - y) := by
  rw [fits_iff] at hx hy
  cases hf : fits (x - y) with
  | true =>
    rw [fits_wrap hf]
    by_cases h : y < 0
    · have : x < x - y := by omega
      simp [h, this]
    · have : ¬ x < x - y := by omega
      simp [h, this]
  | false =>
    rw [fits_not] at hf
    by_cases h : y < 0
    · have : ¬ x < wrap64 (x - y) := by unfold wrap64; omega
      simp [h, this]
    · have : x < wrap64 (x - y) := by unfold wrap64; omega
      simp [h, this]

/- the one pair whose quotient is beyond 64 bits -/
def least (x y : Int) : Bool := x == lo && y == -1
theorem least_t {x y : Int} (h : least x y = true) : x = -9223372036854775808 ∧ y = -1 := by
  simpa [least, lo] using h
theorem least_f {x y : Int} (h : least x y = false) : ¬ (x = -9223372036854775808 ∧ y = -1) := by
  intro e; simp [least, lo, e.1, e.2] at h

theorem tdiv_fits {x y : Int} (hx : fits x = true) (hy : ¬ y = 0) (h : least x y = false) : fits (x.tdiv y) = true := by
  rw [fits_iff] at *
  have := least_f h
  have h1 : (x.tdiv y).natAbs = x.natAbs / y.natAbs := Int.natAbs_tdiv x y
  have h2 : x.natAbs / y.natAbs ≤ x.natAbs := Nat.div_le_self _ _
  by_cases e : y.natAbs = 1
  · rcases (show y = 1 ∨ y = -1 by omega) with rfl | rfl
    · rw [Int.tdiv_one]; exact hx
    · rw [show (-1 : Int) = -(1 : Int) from rfl, Int.tdiv_neg, Int.tdiv_one]; omega
  · have h3 : x.natAbs / y.natAbs ≤ x.natAbs / 2 := Nat.div_le_div_left (by omega) (by omega)
    omega

theorem mul_tdiv_self {x y : Int} (hy : ¬ y = 0) : (x * y).tdiv y = x := Int.mul_tdiv_cancel x hy

theorem ok_mul {x y : Int} (hx : fits x = true) (hy : fits y = true) (hy0 : ¬ y = 0) (h2 : least x y = false) :
    (wrap64 ((wrap64 (x * y)).tdiv y) == x) = fits (x * y) := by
  cases hf : fits (x * y) with
  | true => rw [fits_wrap hf, mul_tdiv_self hy0, fits_wrap hx]; simp
  | false =>
    have hp := wrap_fits (x * y)
    have hcong : ∃ q : Int, wrap64 (x * y) = x * y + q * 18446744073709551616 := by
      refine ⟨-((x * y + 9223372036854775808) / 18446744073709551616), ?_⟩
      unfold wrap64
      have := Int.emod_add_mul_ediv (x * y + 9223372036854775808) 18446744073709551616
      omega
    obtain ⟨q, hq⟩ := hcong
    generalize hP : wrap64 (x * y) = p at *
    have hl : least p y = false := by
      cases hl : least p y with
      | false => rfl
      | true =>
        exfalso
        obtain ⟨e1, e2⟩ := least_t hl
        have n1 := least_f h2
        rw [fits_iff] at hx
        rw [e1, e2] at hq
        apply n1
        refine ⟨?_, e2⟩
        omega
    have hd := tdiv_fits hp hy0 hl
    rw [fits_wrap hd]
    have hne : ¬ p.tdiv y = x := by
      intro he
      have hm := Int.tmod_add_mul_tdiv p y
      rw [he] at hm
      have hlt := Int.natAbs_tmod p y
      have hlt2 : (p.tmod y).natAbs < y.natAbs := by rw [hlt]; exact Nat.mod_lt _ (by omega)
      rw [fits_iff] at hy
      rw [fits_not] at hf
      rw [fits_iff] at hp
      have hxy : y * x = x * y := Int.mul_comm y x
      generalize x * y = z at *
      omega
    simpa using hne

theorem tdiv_tmod (x y : Int) : x.tdiv y * y + x.tmod y = x := by
  have := Int.tmod_add_mul_tdiv x y
  rw [Int.mul_comm (x.tdiv y) y]; omega
theorem tmod_fits {x y : Int} (hx : fits x = true) (hy : fits y = true) : fits (x.tmod y) = true := by
  rw [fits_iff] at *
  have hlt := Int.natAbs_tmod x y
  have h2 : x.natAbs % y.natAbs ≤ x.natAbs := Nat.mod_le _ _
  have h3 : y.natAbs = 0 ∨ x.natAbs % y.natAbs < y.natAbs := by
    rcases Nat.eq_zero_or_pos y.natAbs with h | h
    · exact Or.inl h
    · exact Or.inr (Nat.mod_lt _ h)
  rcases (show x < 0 ∨ 0 ≤ x by omega) with c | c
  · have := Int.tmod_nonneg y (by omega : 0 ≤ -x)
    rw [Int.neg_tmod] at this
    omega
  · have := Int.tmod_nonneg y c
    omega
theorem mul_fits_of_tdiv {x y : Int} (hx : fits x = true) : fits (x.tdiv y * y) = true := by
  have h := tdiv_tmod x y
  rw [fits_iff] at *
  rcases (show x < 0 ∨ 0 ≤ x by omega) with c | c
  · have := Int.tmod_nonneg y (by omega : 0 ≤ -x)
    rw [Int.neg_tmod] at this
    have h2 : (x.tmod y).natAbs ≤ x.natAbs := by rw [Int.natAbs_tmod]; exact Nat.mod_le _ _
    generalize x.tdiv y * y = z at *
    omega
  · have := Int.tmod_nonneg y c
    have h2 : (x.tmod y).natAbs ≤ x.natAbs := by rw [Int.natAbs_tmod]; exact Nat.mod_le _ _
    generalize x.tdiv y * y = z at *
    omega
end Go.Proofs.YtmkfkjicfmllmaaDoor
