/- The contracts of the truths of three kinds, in both packages: isTrue, isFalse, Both, Either, Not; three, told, Both, Either, Not. -/
import Derived.Test.YthimnpobcfkghaaLess
namespace Go.Proofs.Ythimnpobcfkghaa
open Go.RowKit
attribute [local go_sem ↓] Go.wp_at_zero Go.wp_at_succ

def isF (k n : Int) : Bool := k == 1 && n == 0
def isT (k n : Int) : Bool := k == 1 && n != 0
/- 0 false, 1 true, 2 null -/
def th (k n : Int) : Int := if k = 1 then (if n = 0 then 0 else 1) else 2
def tk (t : Int) : Int := if t = 2 then 0 else 1
def tn (t : Int) : Int := if t = 1 then 1 else 0
def both (a b : Int) : Int := if a = 0 ∨ b = 0 then 0 else if a = 1 ∧ b = 1 then 1 else 2
def either (a b : Int) : Int := if a = 1 ∨ b = 1 then 1 else if a = 0 ∧ b = 0 then 0 else 2
def inot (a : Int) : Int := if a = 0 then 1 else if a = 1 then 0 else 2

set_option maxHeartbeats 400000 in
theorem visTrue (k n : Int) (s : ByteArray) (w : World) : Calls Try.prog 62 #[(.agg #[.int .i64 (k), .int .i64 (n), .string (s)])] w fun e w' => e = .returned (.bool (isT k n)) ∧ Below w.heap.size w w' := by
  unfold isT
  by_cases h : (k == 1) = true
  · go_enter Try.func62, Try.ntmps62
    go_wp2
    go_ret
    exact ⟨ret_bool (by simp [h]), ((Below.refl _ _).alloc (Nat.le_refl _) _)⟩
  · have h' : (k == 1) = false := by simpa using h
    go_enter Try.func62, Try.ntmps62
    go_wp2
    go_ret
    exact ⟨ret_bool (by simp [h']), ((Below.refl _ _).alloc (Nat.le_refl _) _)⟩

theorem isF_th (k n : Int) : isF k n = decide (th k n = 0) := by
  unfold isF th; by_cases a : k = 1 <;> by_cases b : n = 0 <;> simp [a, b]
theorem isT_th (k n : Int) : isT k n = decide (th k n = 1) := by
  unfold isT th; by_cases a : k = 1 <;> by_cases b : n = 0 <;> simp [a, b]
theorem th_range (k n : Int) : th k n = 0 ∨ th k n = 1 ∨ th k n = 2 := by
  unfold th; by_cases a : k = 1 <;> by_cases b : n = 0 <;> simp [a, b]

end Go.Proofs.Ythimnpobcfkghaa
