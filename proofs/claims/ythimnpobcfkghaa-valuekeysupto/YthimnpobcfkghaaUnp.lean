/- value.eight: eight bytes as a number -/
import Derived.Test.YthimnpobcfkghaaRPack
import Derived.Laws.Bits64b
namespace Go.Proofs.Ythimnpobcfkghaa
open Go.RowKit Go.Lib
attribute [local go_sem ↓] Go.wp_at_zero Go.wp_at_succ
theorem join_u64 (x y : Nat) (hy : y < 256) (hx : x < 72057594037927936) : bits .or .u64 ((x : Int) * 256) (y : Int) = ((256 * x + y : Nat) : Int) := by
  have e : ((x : Int) * 256) = ((x * 256 : Nat) : Int) := by omega
  rw [e, bits_or_u64_nat _ _ (by omega) (by omega)]
  congr 1
  have h := Nat.two_pow_add_eq_or_of_lt (i := 8) (show y < 2 ^ 8 by omega) x
  rw [show x * 256 = 2 ^ 8 * x by omega, ← h]
set_option maxHeartbeats 300000 in
theorem veight (s : ByteArray) (w : World) (hs : 8 ≤ s.size) :
    Calls Try.prog 60 #[.string s] w fun e w' => e = .returned (.int .u64 (ubN s 8)) ∧ w' = w := by
  go_enter Try.func60, Try.ntmps60
  go_wp2_with fail
  go_loop [3, 5] (fun x y => ∃ k : Nat, y = .int .i64 k ∧ x = .int .u64 (ubN s k) ∧ k ≤ 8) (fun _ y => 8 - (intOf y).toNat)
  case atStart => exact ⟨0, rfl, rfl, Nat.zero_le _⟩
  case round =>
    obtain ⟨k, rfl, rfl, hk⟩ := hrel
    by_cases h0 : k < 8
    · have h1 : (k : Int) < 8 := by omega
      have h2 : (k : Int) < (s.size : Int) := by omega
      have hks : k < s.size := by omega
      have b0 := bytN_lt s k
      have g0 := bytN_get hks
      have u0 := ubN_7 s (show k ≤ 7 by omega)
      have h3 : ubN s (k + 1) = 256 * ubN s k + bytN s k := rfl
      have hj := join_u64 (ubN s k) (bytN s k) b0 u0
      have hw : IntKind.u64.wrap ((ubN s k : Int) * 256) = (ubN s k : Int) * 256 := by rw [wrap_u64]; omega
      go_wp2
      go_round
      case rel => exact ⟨k + 1, by go_num, by rw [h3]; first | rfl | go_num, by omega⟩
      case measure => simp [intOf]; omega
    · obtain rfl : k = 8 := by omega
      go_wp2
      go_ret
      exact ⟨rfl, rfl⟩
set_option maxHeartbeats 300000 in
theorem vreadText_no (z : Nat) (s : ByteArray) (w : World) (h : ¬ (z ≤ 1000 ∧ z ≤ s.size)) :
    Calls Try.prog 66 #[.int .i64 z, .string s] w fun e w' => e = .returned (.tuple #[(.agg #[.int .i64 (0), .int .i64 (0), .string (⟨#[]⟩)]), .string ⟨#[]⟩, .bool false]) ∧ Below w.heap.size w w' := by
  by_cases h1 : z ≤ 1000
  · have i1 : ¬ ((1000 : Int) < (z : Int)) := by omega
    have i2 : ((s.size : Int) < (z : Int)) := by omega
    go_enter Try.func66, Try.ntmps66
    go_wp2_with fail
    refine bodyPost_ret (v := .tuple #[(.agg #[.int .i64 (0), .int .i64 (0), .string (⟨#[]⟩)]), .string ⟨#[]⟩, .bool false]) (by simp [results, Try.results66, go_sem, *]) rfl ⟨rfl, ?_⟩
    exact ((Below.refl _ _).alloc (Nat.le_refl _) _)
  · have i1 : ((1000 : Int) < (z : Int)) := by omega
    go_enter Try.func66, Try.ntmps66
    go_wp2_with fail
    refine bodyPost_ret (v := .tuple #[(.agg #[.int .i64 (0), .int .i64 (0), .string (⟨#[]⟩)]), .string ⟨#[]⟩, .bool false]) (by simp [results, Try.results66, go_sem, *]) rfl ⟨rfl, ?_⟩
    exact ((Below.refl _ _).alloc (Nat.le_refl _) _)
end Go.Proofs.Ythimnpobcfkghaa
