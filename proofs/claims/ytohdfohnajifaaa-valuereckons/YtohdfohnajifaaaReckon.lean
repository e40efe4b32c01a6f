/- The contracts of value.add, subtract, multiply, divide, remainder and Reckon. -/
import Derived.Test.YtohdfohnajifaaaArith
import Derived.Test.YtohdfohnajifaaaLess
import Derived.Deep.QuietTactic
import Derived.BigQuiet
namespace Go.Proofs.Ytohdfohnajifaaa
open Go.RowKit
attribute [local go_sem ↓] Go.wp_at_zero Go.wp_at_succ

theorem ret_two {x x' : Int} {b b' : Bool} (h : x = x') (h' : b = b') : Ending.returned (.tuple #[.int .i64 x, .bool b]) = .returned (.tuple #[.int .i64 x', .bool b']) := by rw [h, h']

set_option maxHeartbeats 400000 in
theorem vadd (x y : Int) (w : World) (hx : fits x = true) (hy : fits y = true) : Calls Try.prog 58 #[.int .i64 x, .int .i64 y] w fun e w' => e = .returned (.tuple #[.int .i64 (wrap64 (x + y)), .bool (fits (x + y))]) ∧ w' = w := by
  have H : Hid _ := ok_add hx hy
  clear hx hy
  go_enter Try.func58, Try.ntmps58
  go_wp2
  go_ret2
  exact ⟨ret_two rfl H.out, rfl⟩

set_option maxHeartbeats 400000 in
theorem vsub (x y : Int) (w : World) (hx : fits x = true) (hy : fits y = true) : Calls Try.prog 59 #[.int .i64 x, .int .i64 y] w fun e w' => e = .returned (.tuple #[.int .i64 (wrap64 (x - y)), .bool (fits (x - y))]) ∧ w' = w := by
  have H : Hid _ := ok_sub hx hy
  clear hx hy
  go_enter Try.func59, Try.ntmps59
  go_wp2
  go_ret2
  exact ⟨ret_two rfl H.out, rfl⟩

set_option maxHeartbeats 400000 in
theorem vleast (x y : Int) (w : World) : Calls Try.prog 77 #[.int .i64 x, .int .i64 y] w fun e w' => e = .returned (.bool (least x y)) ∧ w' = w := by
  unfold least
  by_cases h : (x == lo) = true
  · rw [h]
    have h' : x = lo := by simpa using h
    subst h'
    clear h
    unfold lo
    go_enter Try.func77, Try.ntmps77
    go_wp2
    go_ret
    exact ⟨ret_bool (by simp), rfl⟩
  · have h' : (x == lo) = false := by simpa using h
    rw [h']
    unfold lo at h'
    clear h
    go_enter Try.func77, Try.ntmps77
    go_wp2
    go_ret
    exact ⟨ret_bool (by simp), rfl⟩

set_option maxHeartbeats 1000000 in
theorem vmul (x y : Int) (w : World) (hx : fits x = true) (hy : fits y = true) : Calls Try.prog 60 #[.int .i64 x, .int .i64 y] w fun e w' => ∃ m, e = .returned (.tuple #[.int .i64 m, .bool (fits (x * y))]) ∧ (fits (x * y) = true → m = x * y) ∧ ∃ nq, w' = w.drewN nq := by
  by_cases h0 : x = 0
  · subst h0
    rw [Int.zero_mul, show fits 0 = true from rfl]
    clear hx hy
    go_enter Try.func60, Try.ntmps60
    go_wp2
    go_ret2
    exact ⟨0, rfl, fun _ => rfl, 0, rfl⟩
  by_cases h1 : y = 0
  · subst h1
    have hx0 : (x == 0) = false := by simpa using h0
    rw [Int.mul_zero, show fits 0 = true from rfl]
    clear hx hy h0
    go_enter Try.func60, Try.ntmps60
    go_wp2
    go_ret2
    exact ⟨0, rfl, fun _ => rfl, 0, rfl⟩
  have hx0 : (x == 0) = false := by simpa using h0
  have hy0 : (y == 0) = false := by simpa using h1
  cases hl : least x y with
  | true =>
    have hn : fits (x * y) = false := by obtain ⟨rfl, rfl⟩ := least_t hl; rfl
    rw [hn]
    clear hn hx hy h0 h1
    go_enter Try.func60, Try.ntmps60
    go_wp2_with (go_at_call 77; refine (vleast _ _ _).mono ?_; rintro e w' ⟨rfl, rfl⟩)
    go_ret2
    exact ⟨0, rfl, fun h => absurd h (by simp), 0, rfl⟩
  | false =>
    cases hk : least y x with
    | true =>
      have hn : fits (x * y) = false := by obtain ⟨rfl, rfl⟩ := least_t hk; rfl
      rw [hn]
      clear hn hx hy h0 h1
      go_enter Try.func60, Try.ntmps60
      go_wp2_with (go_at_call 77; refine (vleast _ _ _).mono ?_; rintro e w' ⟨rfl, rfl⟩)
      go_ret2
      exact ⟨0, rfl, fun h => absurd h (by simp), 0, rfl⟩
    | false =>
      have H : Hid _ := ok_mul hx hy h1 hl
      clear hx hy h0
      go_enter Try.func60, Try.ntmps60
      go_wp2_with (go_at_call 77; refine (vleast _ _ _).mono ?_; rintro e w' ⟨rfl, rfl⟩)
      go_quiet (fail)
      go_wp2
      go_ret2
      exact ⟨_, ret_two rfl H.out, fun h => fits_wrap h, _, rfl⟩

/- a quotient, and what is left: when there is one -/
def dok (x y : Int) : Bool := !(y == 0) && !least x y
set_option maxHeartbeats 1000000 in
theorem vdiv (x y : Int) (w : World) (hx : fits x = true) : Calls Try.prog 61 #[.int .i64 x, .int .i64 y] w fun e w' => ∃ m, e = .returned (.tuple #[.int .i64 m, .bool (dok x y)]) ∧ (dok x y = true → m = x.tdiv y) ∧ w' = w := by
  unfold dok
  cases h0 : y == 0 with
  | true =>
    clear hx
    go_enter Try.func61, Try.ntmps61
    go_wp2
    go_ret2
    exact ⟨0, rfl, fun h => absurd h (by simp), rfl⟩
  | false =>
    cases hl : least x y with
    | true =>
      clear hx
      go_enter Try.func61, Try.ntmps61
      go_wp2_with (go_at_call 77; refine (vleast _ _ _).mono ?_; rintro e w' ⟨rfl, rfl⟩)
      go_ret2
      exact ⟨0, rfl, fun h => absurd h (by simp), rfl⟩
    | false =>
      have h1 : ¬ y = 0 := by simpa using h0
      have H : Hid _ := tdiv_fits hx h1 hl
      clear hx
      go_enter Try.func61, Try.ntmps61
      go_wp2_with (go_at_call 77; refine (vleast _ _ _).mono ?_; rintro e w' ⟨rfl, rfl⟩)
      go_ret2
      exact ⟨_, rfl, fun _ => fits_wrap H.out, rfl⟩

set_option maxHeartbeats 1000000 in
theorem vrem (x y : Int) (w : World) (hx : fits x = true) (hy : fits y = true) : Calls Try.prog 62 #[.int .i64 x, .int .i64 y] w fun e w' => ∃ m, e = .returned (.tuple #[.int .i64 m, .bool (dok x y)]) ∧ (dok x y = true → m = x.tmod y) ∧ w' = w := by
  unfold dok
  cases h0 : y == 0 with
  | true =>
    clear hx hy
    go_enter Try.func62, Try.ntmps62
    go_wp2
    go_ret2
    exact ⟨0, rfl, fun h => absurd h (by simp), rfl⟩
  | false =>
    cases hl : least x y with
    | true =>
      clear hx hy
      go_enter Try.func62, Try.ntmps62
      go_wp2_with (go_at_call 77; refine (vleast _ _ _).mono ?_; rintro e w' ⟨rfl, rfl⟩)
      go_ret2
      exact ⟨0, rfl, fun h => absurd h (by simp), rfl⟩
    | false =>
      have h1 : ¬ y = 0 := by simpa using h0
      have H : Hid _ := tmod_fits hx hy
      clear hx hy
      go_enter Try.func62, Try.ntmps62
      go_wp2_with (go_at_call 77; refine (vleast _ _ _).mono ?_; rintro e w' ⟨rfl, rfl⟩)
      go_ret2
      exact ⟨_, rfl, fun _ => by first | exact fits_wrap H.out | rfl, rfl⟩
end Go.Proofs.Ytohdfohnajifaaa
