/- The contracts of four, Used and pick. -/
import Derived.Test.YthimnpobcfkghaaPage2
namespace Go.Proofs.Ythimnpobcfkghaa
open Go.RowKit
attribute [local go_sem ↓] Go.wp_at_zero Go.wp_at_succ

set_option maxHeartbeats 600000 in
theorem cfour (s : ByteArray) (k : Nat) (w : World) (h : k + 3 < s.size) (hs : s.size ≤ 4096) :
    Calls Try.prog 56 #[.string s, .int .i64 k] w fun e w' => e = .returned (.int .i64 (four s k)) ∧ ∃ nq, w' = w.drewN nq := by
  have b0 := two_lt s k
  have b1 := two_lt s (k + 2)
  have e5 : Hid (bits .or .i64 ((two s k : Int) * 65536) (two s (k + 2) : Int) = ((four s k : Nat) : Int)) := by
    show bits .or .i64 ((two s k : Int) * 65536) (two s (k + 2) : Int) = ((four s k : Nat) : Int)
    rw [show (two s k : Int) * 65536 = ((two s k * 2 ^ 16 : Nat) : Int) by omega]
    exact join_i64 (two s k) (two s (k + 2)) 16 (by omega) (by omega) (by omega)
  go_enter Try.func56, Try.ntmps56
  have HK : Hid ((k : Int) + 2 = ((k + 2 : Nat) : Int)) := (by omega : (k : Int) + 2 = ((k + 2 : Nat) : Int))
  go_wp2_with fail
  refine (ctwo s k _ (by omega) hs).mono ?_
  rintro e w1 ⟨rfl, nq, rfl⟩
  go_wp2_with fail
  rw [HK.out]
  refine (ctwo s (k + 2) _ (by omega) hs).mono ?_
  rintro e w2 ⟨rfl, nq2, rfl⟩
  go_wp2
  go_ret
  refine ⟨?_, _, rfl⟩
  show Ending.returned (.int .i64 (bits .or .i64 ((two s k : Int) * 65536) (two s (k + 2) : Int))) = _
  rw [e5.out]

/- texts in a slice -/
def StA (w : World) (a : Option Addr) (n : Nat) (S : Nat → ByteArray) : Prop := n = 0 ∨ ∃ b off, a = some ⟨b, off, none⟩ ∧ b < w.heap.size ∧ ∀ i, i < n → w.cell? ⟨b, off + i, none⟩ = some (.string (S i))
theorem StA.below {w X : World} {a : Option Addr} {n : Nat} {S : Nat → ByteArray} (h : StA w a n S) (hb : Below w.heap.size w X) : StA X a n S := by
  rcases h with h | ⟨b, off, e, hlt, h⟩
  · exact Or.inl h
  · exact Or.inr ⟨b, off, e, keepSize hb hlt, fun i hi => keepCell hb hlt (h i hi)⟩
/- how many bytes the first k texts have -/
def len (S : Nat → ByteArray) : Nat → Nat
  | 0 => 0
  | k + 1 => len S k + (S k).size
theorem len_mono (S : Nat → ByteArray) {i : Nat} : ∀ {j : Nat}, i ≤ j → len S i ≤ len S j
  | 0, h => by have : i = 0 := by omega
               subst this; exact Nat.le_refl _
  | j + 1, h => by
    rcases Nat.lt_or_ge j i with h' | h'
    · have : i = j + 1 := by omega
      subst this; exact Nat.le_refl _
    · have := len_mono S h'
      show len S i ≤ len S j + (S j).size
      omega
set_option maxHeartbeats 600000 in
theorem cused (a : Option Addr) (n cap : Nat) (S : Nat → ByteArray) (w : World) (h : StA w a n S) (hn : 4 * n + len S n ≤ 1099511627776) :
    Calls Try.prog 27 #[.slice a n cap] w fun e w' => e = .returned (.int .i64 (4 * n + len S n : Nat)) ∧ w' = w := by
  have HS : Hid (StA w a n S) := h
  clear h
  go_enter Try.func27, Try.ntmps27
  go_wp2
  go_loop [3, 11] (fun x y => ∃ k : Nat, y = .int .i64 k ∧ x = .int .i64 (4 * (n : Int) + (len S k : Nat)) ∧ k ≤ n) (fun _ y => n - (intOf y).toNat)
  case atStart => exact ⟨0, rfl, by simp [len], Nat.zero_le _⟩
  case round =>
    obtain ⟨k, rfl, rfl, hk⟩ := hrel
    by_cases h0 : k < n
    · obtain ⟨b, off, rfl, hlt, hcells⟩ : ∃ b off, a = some ⟨b, off, none⟩ ∧ b < w.heap.size ∧ ∀ j, j < n → w.cell? ⟨b, off + j, none⟩ = some (.string (S j)) := by
        rcases HS.out with h | h
        · omega
        · exact h
      have c0 := hcells k h0
      have h1 : (k : Int) < (n : Int) := by omega
      have h2 := len_mono S (show k + 1 ≤ n by omega)
      have h3 : len S (k + 1) = len S k + (S k).size := rfl
      clear hcells
      go_wp2
      go_round
      case rel => exact ⟨k + 1, by go_num, by rw [h3]; go_num, by omega⟩
      case measure => simp [intOf]; omega
    · obtain rfl : k = n := by omega
      go_wp2
      go_ret
      exact ⟨by go_num, rfl⟩

def pk (c n : Int) : Int := (if c < 0 then -(c + 1) else c) % n
end Go.Proofs.Ythimnpobcfkghaa
