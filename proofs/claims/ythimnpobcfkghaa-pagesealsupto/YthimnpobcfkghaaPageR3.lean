/- The contract of relstoreref.Seal, whatever it is given. -/
import Derived.Test.YthimnpobcfkghaaPageR2
namespace Go.Proofs.Ythimnpobcfkghaa
open Go.RowKit
attribute [local go_sem ↓] Go.wp_at_zero Go.wp_at_succ

set_option maxRecDepth 20000 in
set_option maxHeartbeats 1000000 in
theorem rseal_room (K Lk : Nat) (a : Option Addr) (n cap : Nat) (S : Nat → ByteArray) (w : World) (h : StA w a n S) (hK : 1 ≤ K ∧ K ≤ 5) (hL : Lk ≤ 2147483647) (hn : 1012 < 4 * n + len S n) (hn' : 4 * n + len S n ≤ 1099511627776) :
    Calls Try.prog 29 #[.agg #[.int .i64 K, .int .i64 Lk, .slice a n cap]] w fun e w' => e = .returned (.tuple #[.string ⟨#[]⟩, .int .i64 5]) ∧ Below w.heap.size w w' := by
  have HS : Hid (∀ W, Below w.heap.size w W → StA W a n S) := fun W hb => h.below hb
  clear h
  go_enter Try.func29, Try.ntmps29
  go_wp2_with fail
  refine (cin _ _ _ _).mono ?_
  rintro e w1 ⟨rfl, rfl⟩
  have k1 : (decide ((1 : Int) ≤ K) && decide ((K : Int) ≤ 5)) = true := by simp; omega
  rw [k1]
  clear k1
  go_wp2_with fail
  refine (cin _ _ _ _).mono ?_
  rintro e w1 ⟨rfl, rfl⟩
  have k2 : (decide ((0 : Int) ≤ Lk) && decide ((Lk : Int) ≤ 2147483647)) = true := by simp; omega
  rw [k2]
  clear k2
  go_wp2_with fail
  have HSv : Hid (StA (w.alloc (.cells #[.int .i64 K, .int .i64 Lk, .slice a n cap] 45)) a n S) := HS.out _ ((Below.refl _ _).alloc (Nat.le_refl _) _)
  have v2 : (w.alloc (.cells #[.int .i64 K, .int .i64 Lk, .slice a n cap] 45)).cell? ⟨w.heap.size, 2, none⟩ = some (.slice a n cap) := (Bx3.new w _ _ _).c2
  have HBv : Hid (Below w.heap.size w (w.alloc (.cells #[.int .i64 K, .int .i64 Lk, .slice a n cap] 45))) := ((Below.refl _ _).alloc (Nat.le_refl _) _)
  generalize w.alloc (.cells #[.int .i64 K, .int .i64 Lk, .slice a n cap] 45) = V at *
  go_loop [4, 25] (fun x y => ∃ k : Nat, y = .int .i64 k ∧ x = .int .i64 (1012 - (4 * (k : Int) + (len S k : Nat))) ∧ k ≤ n) (fun _ y => n - (intOf y).toNat)
  case atStart => exact ⟨0, rfl, by simp [len], Nat.zero_le _⟩
  case round =>
    obtain ⟨k, rfl, rfl, hk⟩ := hrel
    by_cases h0 : k < n
    · obtain ⟨b, off, rfl, hlt, hcells⟩ : ∃ b off, a = some ⟨b, off, none⟩ ∧ b < V.heap.size ∧ ∀ j, j < n → V.cell? ⟨b, off + j, none⟩ = some (.string (S j)) := by
        rcases HSv.out with h | h
        · omega
        · exact h
      have c0 := hcells k h0
      have h1 : (k : Int) < (n : Int) := by omega
      have h2 := len_mono S (show k + 1 ≤ n by omega)
      have h3 : len S (k + 1) = len S k + (S k).size := rfl
      have HE : Hid (1012 - (4 * (k : Int) + ((len S k : Nat) : Int)) - (4 + ((S k).size : Int)) = 1012 - (4 * ((k + 1 : Nat) : Int) + ((len S (k + 1) : Nat) : Int))) := by
        show 1012 - (4 * (k : Int) + ((len S k : Nat) : Int)) - (4 + ((S k).size : Int)) = 1012 - (4 * ((k + 1 : Nat) : Int) + ((len S (k + 1) : Nat) : Int))
        rw [h3]; omega
      clear hcells
      go_wp2
      go_round
      case rel => exact ⟨k + 1, by go_num, congrArg (Value.int IntKind.i64) HE.out, by omega⟩
      case measure => simp [intOf]; omega
    · obtain rfl : k = n := by omega
      have f0 : 1012 - (4 * (k : Int) + ((len S k : Nat) : Int)) < 0 := by omega
      go_wp2_with fail
      go_ret2
      exact ⟨rfl, HBv.out⟩

set_option maxHeartbeats 1000000 in
theorem rseal_arg1 (K Lk : Int) (a : Option Addr) (n cap : Nat) (w : World) (h1 : (decide (1 ≤ K) && decide (K ≤ 5)) = false) :
    Calls Try.prog 29 #[.agg #[.int .i64 K, .int .i64 Lk, .slice a n cap]] w fun e w' => e = .returned (.tuple #[.string ⟨#[]⟩, .int .i64 1]) ∧ Below w.heap.size w w' := by
  have H1 : Hid _ := h1
  clear h1
  go_enter Try.func29, Try.ntmps29
  go_wp2_with fail
  refine (cin _ _ _ _).mono ?_
  rintro e w1 ⟨rfl, rfl⟩
  rw [H1.out]
  go_wp2_with fail
  go_ret2
  exact ⟨rfl, ((Below.refl _ _).alloc (Nat.le_refl _) _)⟩

set_option maxHeartbeats 1000000 in
theorem rseal_arg2 (K Lk : Int) (a : Option Addr) (n cap : Nat) (w : World) (h1 : (decide (1 ≤ K) && decide (K ≤ 5)) = true) (h2 : (decide (0 ≤ Lk) && decide (Lk ≤ 2147483647)) = false) :
    Calls Try.prog 29 #[.agg #[.int .i64 K, .int .i64 Lk, .slice a n cap]] w fun e w' => e = .returned (.tuple #[.string ⟨#[]⟩, .int .i64 1]) ∧ Below w.heap.size w w' := by
  have H1 : Hid _ := h1
  have H2 : Hid _ := h2
  clear h1 h2
  go_enter Try.func29, Try.ntmps29
  go_wp2_with fail
  refine (cin _ _ _ _).mono ?_
  rintro e w1 ⟨rfl, rfl⟩
  rw [H1.out]
  go_wp2_with fail
  refine (cin _ _ _ _).mono ?_
  rintro e w1 ⟨rfl, rfl⟩
  rw [H2.out]
  go_wp2_with fail
  go_ret2
  exact ⟨rfl, ((Below.refl _ _).alloc (Nat.le_refl _) _)⟩

/- the document's Seal, whatever it is given: as the program's -/
theorem rseal (K Lk : Int) (a : Option Addr) (n cap : Nat) (S : Nat → ByteArray) (w : World) (h : StA w a n S) (hn : 4 * n + len S n ≤ 1099511627776) :
    Calls Try.prog 29 #[.agg #[.int .i64 K, .int .i64 Lk, .slice a n cap]] w fun e w' =>
      ((e = .returned (.tuple #[.string ⟨#[]⟩, .int .i64 1]) ∧ ¬ (1 ≤ K ∧ K ≤ 5 ∧ 0 ≤ Lk ∧ Lk ≤ 2147483647)) ∨
       (e = .returned (.tuple #[.string ⟨#[]⟩, .int .i64 5]) ∧ (1 ≤ K ∧ K ≤ 5 ∧ 0 ≤ Lk ∧ Lk ≤ 2147483647) ∧ 1012 < 4 * n + len S n) ∨
       (e = .returned (.tuple #[.string ⟨(sealed K.toNat Lk.toNat n S).toArray⟩, .int .i64 0]) ∧ (1 ≤ K ∧ K ≤ 5 ∧ 0 ≤ Lk ∧ Lk ≤ 2147483647) ∧ 4 * n + len S n ≤ 1012)) ∧ Below w.heap.size w w' := by
  by_cases h1 : 1 ≤ K ∧ K ≤ 5
  · have e1 : (decide (1 ≤ K) && decide (K ≤ 5)) = true := by simp; omega
    by_cases h2 : 0 ≤ Lk ∧ Lk ≤ 2147483647
    · obtain ⟨k, rfl⟩ := Int.eq_ofNat_of_zero_le (show 0 ≤ K by omega)
      obtain ⟨lk, rfl⟩ := Int.eq_ofNat_of_zero_le (show 0 ≤ Lk by omega)
      by_cases h5 : 4 * n + len S n ≤ 1012
      · exact (rseal_ok k lk a n cap S w h (by omega) (by omega) h5).mono fun e w' ⟨h, hb⟩ => ⟨.inr (.inr ⟨h, by omega, h5⟩), hb⟩
      · exact (rseal_room k lk a n cap S w h (by omega) (by omega) (by omega) hn).mono fun e w' ⟨h, hb⟩ => ⟨.inr (.inl ⟨h, by omega, by omega⟩), hb⟩
    · have e2 : (decide (0 ≤ Lk) && decide (Lk ≤ 2147483647)) = false := by
        rw [Bool.and_eq_false_iff, decide_eq_false_iff_not, decide_eq_false_iff_not]; omega
      exact (rseal_arg2 K Lk a n cap w e1 e2).mono fun e w' ⟨h, hb⟩ => ⟨.inl ⟨h, by omega⟩, hb⟩
  · have e1 : (decide (1 ≤ K) && decide (K ≤ 5)) = false := by
      rw [Bool.and_eq_false_iff, decide_eq_false_iff_not, decide_eq_false_iff_not]; omega
    exact (rseal_arg1 K Lk a n cap w e1).mono fun e w' ⟨h, hb⟩ => ⟨.inl ⟨h, by omega⟩, hb⟩
end Go.Proofs.Ythimnpobcfkghaa
