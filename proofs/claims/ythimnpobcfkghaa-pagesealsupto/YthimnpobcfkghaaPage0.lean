/- Pages in plain functions: the sum of bytes (CRC-32), and that another byte makes another sum. -/
import Derived.Test.YthimnpobcfkghaaBase
import Derived.Laws.BitsAllLaws
namespace Go.Proofs.Ythimnpobcfkghaa
open Go.RowKit

theorem wrap_i64n (n : Nat) (h : n < 9223372036854775808) : IntKind.i64.wrap (n : Int) = (n : Int) := by
  have e : (n : Int) % 2 ^ 64 = n := Int.emod_eq_of_lt (by omega) (by omega)
  simp only [IntKind.wrap, IntKind.bits, IntKind.signed, e]
  rw [if_neg]
  simp
  omega
theorem or_i64 (a b : Nat) (ha : a < 4611686018427387904) (hb : b < 4611686018427387904) : bits .or .i64 (a : Int) (b : Int) = ((a ||| b : Nat) : Int) := by
  have hx : a ||| b < 2 ^ 62 := Nat.or_lt_two_pow (by omega) (by omega)
  show IntKind.i64.wrap ((BitVec.ofInt 64 (a : Int) ||| BitVec.ofInt 64 (b : Int)).toNat : Int) = _
  rw [BitVec.toNat_or, ofInt_u64 a (by omega), ofInt_u64 b (by omega)]
  exact wrap_i64n _ (by omega)
theorem join_i64 (x y k : Nat) (hy : y < 2 ^ k) (hx : x * 2 ^ k < 4611686018427387904) (hk : 2 ^ k ≤ 4611686018427387904) : bits .or .i64 ((x * 2 ^ k : Nat) : Int) (y : Int) = ((x * 2 ^ k + y : Nat) : Int) := by
  rw [or_i64 _ _ hx (by omega), nat_join k _ _ (by simp) hy]

/- the polynomial; one bit; one byte; all -/
def poly : Nat := 3988292384
def stp (x : Nat) : Nat := (x / 2) ^^^ (poly * (x % 2))
def stps : Nat → Nat → Nat
  | 0, x => x
  | k + 1, x => stps k (stp x)
theorem stps_s (k x : Nat) : stps (k + 1) x = stp (stps k x) := by
  induction k generalizing x with
  | zero => rfl
  | succ k ih => rw [stps, ih]; rfl
def feed (x c : Nat) : Nat := stps 8 (x ^^^ c)
def fold (s : ByteArray) (x : Nat) : Nat → Nat
  | 0 => x
  | k + 1 => feed (fold s x k) (s[k]!).toNat
def crc (s : ByteArray) : Nat := 4294967295 - fold s 4294967295 s.size

theorem stp_lt {x : Nat} (h : x < 4294967296) : stp x < 4294967296 := by
  have h1 : x / 2 < 2 ^ 32 := by omega
  have h2 : poly * (x % 2) < 2 ^ 32 := by
    unfold poly
    have : x % 2 < 2 := Nat.mod_lt _ (by decide)
    omega
  exact Nat.xor_lt_two_pow h1 h2
theorem stps_lt {x : Nat} (h : x < 4294967296) : ∀ k, stps k x < 4294967296
  | 0 => h
  | k + 1 => by rw [stps_s]; exact stp_lt (stps_lt h k)
theorem feed_lt {x c : Nat} (h : x < 4294967296) (hc : c < 256) : feed x c < 4294967296 := by
  refine stps_lt ?_ 8
  have : x < 2 ^ 32 := h
  exact Nat.xor_lt_two_pow this (show c < 2 ^ 32 by omega)
theorem get_lt (s : ByteArray) (k : Nat) : (s[k]!).toNat < 256 := UInt8.toNat_lt _
theorem fold_lt (s : ByteArray) {x : Nat} (h : x < 4294967296) : ∀ k, fold s x k < 4294967296
  | 0 => h
  | k + 1 => feed_lt (fold_lt s h k) (get_lt s k)
theorem stp_top {x : Nat} (h : x < 4294967296) : (stp x).testBit 31 = decide (x % 2 = 1) := by
  unfold stp
  have h1 : (x / 2).testBit 31 = false := Nat.testBit_lt_two_pow (show x / 2 < 2 ^ 31 by omega)
  rw [Nat.testBit_xor, h1]
  rcases Nat.mod_two_eq_zero_or_one x with e | e
  · rw [e]; decide
  · rw [e]; decide
theorem xor_cancel {a b c : Nat} (h : a ^^^ c = b ^^^ c) : a = b := by
  have : (a ^^^ c) ^^^ c = (b ^^^ c) ^^^ c := by rw [h]
  rwa [Nat.xor_assoc, Nat.xor_assoc, Nat.xor_self, Nat.xor_zero, Nat.xor_zero] at this
theorem xor_cancel' {a b c : Nat} (h : c ^^^ a = c ^^^ b) : a = b := by
  rw [Nat.xor_comm c a, Nat.xor_comm c b] at h
  exact xor_cancel h
theorem stp_inj {x y : Nat} (hx : x < 4294967296) (hy : y < 4294967296) (h : stp x = stp y) : x = y := by
  have ht : decide (x % 2 = 1) = decide (y % 2 = 1) := by rw [← stp_top hx, ← stp_top hy, h]
  have hm : x % 2 = y % 2 := by
    have := decide_eq_decide.1 ht
    omega
  unfold stp at h
  rw [hm] at h
  have := xor_cancel h
  omega
theorem stps_inj {x y : Nat} (hx : x < 4294967296) (hy : y < 4294967296) : ∀ k, stps k x = stps k y → x = y
  | 0, h => h
  | k + 1, h => by
    rw [stps_s, stps_s] at h
    exact stps_inj hx hy k (stp_inj (stps_lt hx k) (stps_lt hy k) h)
theorem feed_inj {x y c : Nat} (hx : x < 4294967296) (hy : y < 4294967296) (hc : c < 256) (h : feed x c = feed y c) : x = y := by
  have hx' : x < 2 ^ 32 := hx
  have hy' : y < 2 ^ 32 := hy
  exact xor_cancel (stps_inj (Nat.xor_lt_two_pow hx' (show c < 2 ^ 32 by omega)) (Nat.xor_lt_two_pow hy' (show c < 2 ^ 32 by omega)) 8 h)
theorem feed_inj' {x c d : Nat} (hx : x < 4294967296) (hc : c < 256) (hd : d < 256) (h : feed x c = feed x d) : c = d := by
  have hx' : x < 2 ^ 32 := hx
  exact xor_cancel' (stps_inj (Nat.xor_lt_two_pow hx' (show c < 2 ^ 32 by omega)) (Nat.xor_lt_two_pow hx' (show d < 2 ^ 32 by omega)) 8 h)
theorem fold_congr {s t : ByteArray} (x : Nat) : ∀ {k : Nat}, (∀ i, i < k → s[i]! = t[i]!) → fold s x k = fold t x k
  | 0, _ => rfl
  | k + 1, h => by
    show feed (fold s x k) (s[k]!).toNat = feed (fold t x k) (t[k]!).toNat
    rw [fold_congr x (fun i hi => h i (by omega)), h k (by omega)]
/- one byte is another one: so is all that follows -/
theorem fold_ne {s t : ByteArray} {x : Nat} (hx : x < 4294967296) {j : Nat} (hne : s[j]! ≠ t[j]!) (hsame : ∀ i, i ≠ j → s[i]! = t[i]!) : ∀ {k : Nat}, j < k → fold s x k ≠ fold t x k := by
  intro k hk
  induction k with
  | zero => omega
  | succ k ih =>
    intro h
    have h : feed (fold s x k) (s[k]!).toNat = feed (fold t x k) (t[k]!).toNat := h
    by_cases e : k = j
    · subst e
      rw [fold_congr x (fun i hi => hsame i (by omega))] at h
      have := feed_inj' (fold_lt t hx k) (get_lt s k) (get_lt t k) h
      exact hne (UInt8.toNat_inj.1 this)
    · rw [hsame k e] at h
      exact ih (by omega) (feed_inj (fold_lt s hx k) (fold_lt t hx k) (get_lt t k) h)
theorem crc_ne {s t : ByteArray} (hsz : s.size = t.size) {j : Nat} (hj : j < s.size) (hne : s[j]! ≠ t[j]!) (hsame : ∀ i, i ≠ j → s[i]! = t[i]!) : crc s ≠ crc t := by
  unfold crc
  have h := fold_ne (x := 4294967295) (by decide) hne hsame hj
  have h1 := fold_lt s (x := 4294967295) (by decide) s.size
  have h2 := fold_lt t (x := 4294967295) (by decide) t.size
  rw [← hsz] at h2 ⊢
  omega
theorem crc_lt (s : ByteArray) : crc s < 4294967296 := by unfold crc; omega
theorem stp_bits (Y : Nat) (h : Y < 4294967296) : bits .xor .u32 ((Y : Int) / 2) (3988292384 * bits .and .u32 (Y : Int) 1 % 4294967296) = ((stp Y : Nat) : Int) := by
  have x1 : bits .and .u32 (Y : Int) 1 = ((Y % 2 : Nat) : Int) := by
    have := u32_and_nat Y 1 h (by omega)
    rw [nat_mask1] at this
    exact this
  have hm : Y % 2 < 2 := Nat.mod_lt _ (by decide)
  have e1 : (3988292384 : Int) * ((Y % 2 : Nat) : Int) % 4294967296 = ((poly * (Y % 2) : Nat) : Int) := by unfold poly; omega
  have e2 : (Y : Int) / 2 = ((Y / 2 : Nat) : Int) := by omega
  rw [x1, e1, e2]
  exact u32_xor_nat _ _ (by omega) (by unfold poly; omega)
theorem not_xor (X : Nat) (h : X < 4294967296) : 4294967295 ^^^ X = 4294967295 - X := by
  have e : (BitVec.allOnes 32 ^^^ BitVec.ofNat 32 X).toNat = (~~~ (BitVec.ofNat 32 X)).toNat := by rw [BitVec.allOnes_xor]
  rw [BitVec.toNat_xor, BitVec.toNat_not, BitVec.toNat_ofNat, Nat.mod_eq_of_lt (show X < 2 ^ 32 by omega)] at e
  exact e
theorem crc_bits (s : ByteArray) : bits .xor .u32 IntKind.u32.max ((fold s 4294967295 s.size : Nat) : Int) = ((crc s : Nat) : Int) := by
  have hf := fold_lt s (x := 4294967295) (by decide) s.size
  have := u32_xor_nat 4294967295 (fold s 4294967295 s.size) (by decide) hf
  rw [not_xor _ hf] at this
  exact this
end Go.Proofs.Ythimnpobcfkghaa
