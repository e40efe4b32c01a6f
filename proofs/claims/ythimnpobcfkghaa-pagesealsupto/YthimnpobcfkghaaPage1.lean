/- The contracts of page's small functions: two, four, Sum; of pick. -/
import Derived.Test.YthimnpobcfkghaaPage0
import Derived.Test.YthimnpobcfkghaaLess
import Derived.Deep.QuietTactic
import Derived.BigQuiet
namespace Go.Proofs.Ythimnpobcfkghaa
open Go.RowKit
attribute [local go_sem ↓] Go.wp_at_zero Go.wp_at_succ

def byt (s : ByteArray) (i : Nat) : Nat := (s[i]!).toNat
theorem byt_lt (s : ByteArray) (i : Nat) : byt s i < 256 := UInt8.toNat_lt _
theorem byt_get {s : ByteArray} {i : Nat} (h : i < s.size) : (s[i]).toNat = byt s i := by
  unfold byt
  rw [getElem!_pos s i h]
def two (s : ByteArray) (i : Nat) : Nat := byt s i * 256 + byt s (i + 1)
theorem two_lt (s : ByteArray) (i : Nat) : two s i < 65536 := by
  have := byt_lt s i
  have := byt_lt s (i + 1)
  unfold two; omega
def four (s : ByteArray) (i : Nat) : Nat := two s i * 65536 + two s (i + 2)
set_option maxHeartbeats 600000 in
theorem ctwo (s : ByteArray) (k : Nat) (w : World) (h : k + 1 < s.size) (hs : s.size ≤ 4096) :
    Calls Try.prog 70 #[.string s, .int .i64 k] w fun e w' => e = .returned (.int .i64 (two s k)) ∧ ∃ nq, w' = w.drewN nq := by
  have h1 : (k : Int) < (s.size : Int) := by omega
  have h2 : ((k + 1 : Nat) : Int) < (s.size : Int) := by omega
  have e1 : IntKind.i64.wrap ((k : Int) + 1) = ((k + 1 : Nat) : Int) := wrap_i64n (k + 1) (by omega)
  have b0 := byt_lt s k
  have b1 := byt_lt s (k + 1)
  have g0 := byt_get (show k < s.size by omega)
  have g1 := byt_get h
  have e2 : IntKind.i64.wrap ((byt s k : Nat) : Int) = ((byt s k : Nat) : Int) := wrap_i64n _ (by omega)
  have e3 : IntKind.i64.wrap ((byt s k : Int) * 256) = ((byt s k * 256 : Nat) : Int) := wrap_i64n (byt s k * 256) (by omega)
  have e4 : IntKind.i64.wrap ((byt s (k + 1) : Nat) : Int) = ((byt s (k + 1) : Nat) : Int) := wrap_i64n _ (by omega)
  have e5 : Hid (bits .or .i64 ((byt s k : Int) * 256) (byt s (k + 1) : Int) = ((two s k : Nat) : Int)) := by
    show bits .or .i64 ((byt s k : Int) * 256) (byt s (k + 1) : Int) = ((two s k : Nat) : Int)
    rw [show (byt s k : Int) * 256 = ((byt s k * 2 ^ 8 : Nat) : Int) by omega]
    exact join_i64 (byt s k) (byt s (k + 1)) 8 (by omega) (by omega) (by omega)
  go_enter Try.func70, Try.ntmps70
  go_wp2
  refine wp_region_quiet_lit (by kernel_rfl) (by kernel_rfl) ?_; (repeat (first | go_big_quiet_step (fail) | (rw [e1]))); refine wpQuiet_nil ?_; intro _ hw'; obtain ⟨nr, hw''⟩ := hw'; subst hw''
  go_wp2
  go_ret
  refine ⟨?_, _, rfl⟩
  show Ending.returned (.int .i64 (bits .or .i64 ((byt s k : Int) * 256) (byt s (k + 1) : Int))) = _
  rw [e5.out]

set_option maxHeartbeats 600000 in
theorem csum (s : ByteArray) (w : World) (hs : s.size ≤ 4096) :
    Calls Try.prog 33 #[.string s] w fun e w' => e = .returned (.int .u32 (crc s)) ∧ w' = w := by
  go_enter Try.func33, Try.ntmps33
  go_wp2
  go_loop [3, 8] (fun x y => ∃ k : Nat, y = .int .i64 k ∧ x = .int .u32 (fold s 4294967295 k) ∧ k ≤ s.size) (fun _ y => s.size - (intOf y).toNat)
  case atStart => exact ⟨0, rfl, rfl, Nat.zero_le _⟩
  case round =>
    obtain ⟨k, rfl, rfl, hk⟩ := hrel
    have hf : fold s 4294967295 k < 4294967296 := fold_lt s (by decide) k
    by_cases h0 : k < s.size
    · have h1 : (k : Int) < (s.size : Int) := by omega
      have b0 := byt_lt s k
      have g0 := byt_get h0
      have x0 := u32_xor_nat (fold s 4294967295 k) (byt s k) hf (by omega)
      have hX : fold s 4294967295 k ^^^ byt s k < 4294967296 := Nat.xor_lt_two_pow (n := 32) hf (by omega)
      go_wp2
      go_loop [3, 17] (fun x y => ∃ j : Nat, y = .int .i64 j ∧ x = .int .u32 (stps j (fold s 4294967295 k ^^^ byt s k)) ∧ j ≤ 8) (fun _ y => 8 - (intOf y).toNat)
      case atStart => exact ⟨0, rfl, rfl, Nat.zero_le _⟩
      case round =>
        obtain ⟨j, rfl, rfl, hj⟩ := hrel
        have hX' := stps_lt hX j
        by_cases h2 : j < 8
        · have h3 : (j : Int) < 8 := by omega
          have x1 := stp_bits _ hX'
          go_wp2
          exact ⟨⟨j + 1, by simp, by rw [stps_s], by omega⟩, by simp [intOf]; omega⟩
        · obtain rfl : j = 8 := by omega
          go_wp2
          exact ⟨⟨k + 1, by simp, rfl, by omega⟩, by simp [intOf]; omega⟩
    · obtain rfl : k = s.size := by omega
      have HC : Hid _ := crc_bits s
      go_wp2
      go_ret
      refine ⟨?_, rfl⟩
      show Ending.returned (.int .u32 (bits .xor .u32 IntKind.u32.max ((fold s 4294967295 s.size : Nat) : Int))) = _
      rw [HC.out]
end Go.Proofs.Ythimnpobcfkghaa
