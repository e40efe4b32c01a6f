/- package wal: small functions: places, numbers as four bytes -/
import Derived.Test.YtfjkockcgddgbaaGreatWal0
import Derived.Test.YtfjkockcgddgbaaGreatWalM
import Derived.Laws.Bits64b
namespace Go.Proofs.YtfjkockcgddgbaaGreat
open Go.RowKit Go.Lib
attribute [local go_sem ↓] Go.wp_at_zero Go.wp_at_succ
theorem keepBelow {w W w1 : World} (h : Below w.heap.size w W) (hb : Below W.heap.size W w1) : Below w.heap.size w w1 := h.trans (hb.mono h.size)
theorem keepSize {W w1 : World} (hb : Below W.heap.size W w1) {A : Nat} (hA : A < W.heap.size) : A < w1.heap.size := Nat.lt_of_lt_of_le hA hb.size
theorem below_dw {B m : Nat} {a X : World} (h : Below B a X) : Below B a (X.drewN m) := ⟨h.os, h.tape, h.output, h.size, h.block⟩
def isPg (n : Int) : Bool := decide (0 ≤ n ∧ n ≤ 2147483647)
theorem cisPage (n : Int) (w : World) : Calls Tryz.prog 52 #[.int .i64 n] w fun e w' => e = .returned (.bool (isPg n)) ∧ w' = w := by
  by_cases h1 : 0 ≤ n
  · by_cases h2 : n ≤ 2147483647
    · have e : isPg n = true := decide_eq_true ⟨h1, h2⟩
      rw [e]; clear e
      go_enter Tryz.func52, Tryz.ntmps52
      go_wp2
      go_ret
      exact ⟨rfl, rfl⟩
    · have e : isPg n = false := decide_eq_false (fun h => h2 h.2)
      rw [e]; clear e
      go_enter Tryz.func52, Tryz.ntmps52
      go_wp2
      go_ret
      exact ⟨rfl, rfl⟩
  · have e : isPg n = false := decide_eq_false (fun h => h1 h.1)
    rw [e]; clear e
    go_enter Tryz.func52, Tryz.ntmps52
    go_wp2
    go_ret
    exact ⟨rfl, rfl⟩
theorem cframeAt (n : Int) (w : World) (h0 : 0 ≤ n) (h1 : n ≤ 4294967296) : Calls Tryz.prog 57 #[.int .i64 n] w fun e w' => e = .returned (.int .i64 (64 + 1028 * n)) ∧ w' = w := by
  go_enter Tryz.func57, Tryz.ntmps57
  go_wp2
  go_ret
  exact ⟨rfl, rfl⟩
theorem cslotAt (n : Int) (w : World) (h0 : 0 ≤ n) (h1 : n ≤ 1) : Calls Tryz.prog 100 #[.int .i64 n] w fun e w' => e = .returned (.int .i64 (16 + 24 * n)) ∧ w' = w := by
  go_enter Tryz.func100, Tryz.ntmps100
  go_wp2
  go_ret
  exact ⟨rfl, rfl⟩
def nxN (n : Nat) : Nat := n % 3 + 1
theorem cnext (n : Nat) (w : World) (h1 : n ≤ 4294967296) : Calls Tryz.prog 85 #[.int .i64 n] w fun e w' => e = .returned (.int .i64 (nxN n : Nat)) ∧ w' = w := by
  have e : ((nxN n : Nat) : Int) = (n : Int) % 3 + 1 := by unfold nxN; omega
  rw [e]; clear e
  go_enter Tryz.func85, Tryz.ntmps85
  go_wp2
  go_ret
  exact ⟨rfl, rfl⟩
def fourB (n : Nat) : ByteArray := ⟨#[UInt8.ofNat (n / 16777216), UInt8.ofNat (n / 65536), UInt8.ofNat (n / 256), UInt8.ofNat n]⟩
def fourC (n : Nat) : Array Value := #[.int .u8 ((n : Int) / 16777216 % 256), .int .u8 ((n : Int) / 65536 % 256), .int .u8 ((n : Int) / 256 % 256), .int .u8 ((n : Int) % 256)]
theorem four_text (X : World) (n : Nat) : (convert 79 9 (.slice (some ⟨X.heap.size, 0, none⟩) 4 4)).run Tryz.prog (X.alloc (.cells #[.int .u8 ((n : Int) / 16777216 % 256), .int .u8 ((n : Int) / 65536 % 256), .int .u8 ((n : Int) / 256 % 256), .int .u8 ((n : Int) % 256)] 5)) = .ok (.string (fourB n)) (X.alloc (.cells #[.int .u8 ((n : Int) / 16777216 % 256), .int .u8 ((n : Int) / 65536 % 256), .int .u8 ((n : Int) / 256 % 256), .int .u8 ((n : Int) % 256)] 5)) := by
  have := run_convert_bytes_back (P := Tryz.prog) (X.alloc (.cells (fourC n) 5)) 79 9 5 ⟨X.heap.size, 0, none⟩ 4 [UInt8.ofNat (n / 16777216), UInt8.ofNat (n / 65536), UInt8.ofNat (n / 256), UInt8.ofNat n] Tryz.underlying79 Tryz.underlying5 Tryz.underlying9 (fun j hj => by
    rw [Addr.add_lit]
    have h4 : j < 4 := hj
    have hc : (X.alloc (.cells (fourC n) 5)).cell? ⟨X.heap.size, 0 + j, none⟩ = (fourC n)[j]? := by simp only [World.cell?, World.alloc_heap_new]; simp
    rw [hc]
    rcases (show j = 0 ∨ j = 1 ∨ j = 2 ∨ j = 3 by omega) with rfl | rfl | rfl | rfl <;> simp [fourC])
  exact this
set_option maxRecDepth 20000 in
theorem cfour (n : Nat) (w : World) : Calls Tryz.prog 59 #[.int .i64 n] w fun e w' => e = .returned (.string (fourB n)) ∧ Below w.heap.size w w' := by
  have ht := four_text w n
  go_enter Tryz.func59, Tryz.ntmps59
  go_wp2
  go_ret
  exact ⟨rfl, (Below.refl _ _).alloc (Nat.le_refl _) _⟩
def bytS (s : ByteArray) (i : Nat) : Nat := if h : i < s.size then (s[i]'h).toNat else 0
theorem bytS_lt (s : ByteArray) (i : Nat) : bytS s i < 256 := by
  unfold bytS
  split
  · exact UInt8.toNat_lt _
  · decide
theorem bytS_get {s : ByteArray} {i : Nat} (h : i < s.size) : (s[i]'h).toNat = bytS s i := by unfold bytS; rw [dif_pos h]
def numK (s : ByteArray) (p : Nat) : Nat → Nat
  | 0 => 0
  | i + 1 => numK s p i * 256 + bytS s (p + i)
def numB (s : ByteArray) (p : Nat) : Nat := numK s p 4
theorem numK_lt (s : ByteArray) (p : Nat) : ∀ i, numK s p i < 256 ^ i
  | 0 => by show 0 < 1; decide
  | i + 1 => by
    have h1 := numK_lt s p i
    have h2 := bytS_lt s (p + i)
    rw [Nat.pow_succ]
    show numK s p i * 256 + bytS s (p + i) < _
    omega
theorem numK_7 (s : ByteArray) (p : Nat) {i : Nat} (h : i ≤ 4) : numK s p i < 4294967296 := Nat.lt_of_lt_of_le (numK_lt s p i) (by
  rcases (show i = 0 ∨ i = 1 ∨ i = 2 ∨ i = 3 ∨ i = 4 by omega) with rfl | rfl | rfl | rfl | rfl <;> decide)
theorem numB_lt (s : ByteArray) (p : Nat) : numB s p < 4294967296 := numK_7 s p (Nat.le_refl _)
theorem bits_or_i64 (a b : Nat) (ha : a < 4611686018427387904) (hb : b < 4611686018427387904) : bits .or .i64 (a : Int) (b : Int) = ((a ||| b : Nat) : Int) := by
  have hx : a ||| b < 2 ^ 62 := Nat.or_lt_two_pow (by omega) (by omega)
  have h1 : (BitVec.ofInt 64 (a : Int)).toNat = a := by
    rw [BitVec.ofInt_natCast, BitVec.toNat_ofNat]; exact Nat.mod_eq_of_lt (by omega)
  have h2 : (BitVec.ofInt 64 (b : Int)).toNat = b := by
    rw [BitVec.ofInt_natCast, BitVec.toNat_ofNat]; exact Nat.mod_eq_of_lt (by omega)
  show IntKind.i64.wrap ((BitVec.ofInt 64 (a : Int) ||| BitVec.ofInt 64 (b : Int)).toNat : Int) = _
  rw [BitVec.toNat_or, h1, h2]
  simp only [IntKind.wrap, IntKind.bits, IntKind.signed]
  simp
  omega
theorem join_i64 (x y : Nat) (hy : y < 256) (hx : x < 4294967296) : bits .or .i64 ((x : Int) * 256) (y : Int) = ((x * 256 + y : Nat) : Int) := by
  have e : ((x : Int) * 256) = ((x * 256 : Nat) : Int) := by omega
  rw [e, bits_or_i64 _ _ (by omega) (by omega)]
  congr 1
  have h := Nat.two_pow_add_eq_or_of_lt (i := 8) (show y < 2 ^ 8 by omega) x
  rw [show x * 256 = 2 ^ 8 * x by omega, ← h]
set_option maxRecDepth 20000 in
theorem cnumber (s : ByteArray) (p : Nat) (w : World) (hp : p + 4 ≤ s.size) (hs : s.size ≤ 1099511627776) : Calls Tryz.prog 92 #[.string s, .int .i64 p] w fun e w' => e = .returned (.int .i64 (numB s p : Nat)) ∧ w' = w := by
  go_enter Tryz.func92, Tryz.ntmps92
  go_wp2
  go_loop [5, 7] (fun x y => ∃ i : Nat, x = .int .i64 (numK s p i : Nat) ∧ y = .int .i64 i ∧ i ≤ 4) (fun _ y => 4 - (intOf y).toNat)
  case atStart => exact ⟨0, rfl, rfl, by omega⟩
  case round =>
    obtain ⟨k, rfl, rfl, hk⟩ := hrel
    by_cases h0 : k < 4
    · have h1 : (k : Int) < 4 := by omega
      have h2 : (p : Int) + (k : Int) < (s.size : Int) := by omega
      have hks : p + k < s.size := by omega
      have b0 := bytS_lt s (p + k)
      have g0 := bytS_get hks
      have u0 := numK_7 s p (show k ≤ 4 by omega)
      have h3 : numK s p (k + 1) = numK s p k * 256 + bytS s (p + k) := rfl
      have hj := join_i64 (numK s p k) (bytS s (p + k)) b0 u0
      go_wp2
      go_round
      case rel => exact ⟨k + 1, by rw [h3]; first | rfl | go_num, by go_num, by omega⟩
      case measure => simp [intOf]; omega
    · obtain rfl : k = 4 := by omega
      go_wp2
      go_ret
      exact ⟨rfl, rfl⟩
theorem slice_lit (head : ByteArray) (i j : Nat) (hij : i ≤ j) (hj : j ≤ head.size) (X : World) : (Instr.slice 9 (.string head) (some (.int .i64 (i : Int))) (some (.int .i64 (j : Int))) none).run Tryz.prog X = .ok (.string (head.extract i j)) X := by
  rw [run_slice_string_if X 9 head .i64 .i64 i j Tryz.underlying9, if_pos ⟨by omega, by omega⟩, if_pos ⟨by omega, by omega⟩]
  rfl
end Go.Proofs.YtfjkockcgddgbaaGreat
