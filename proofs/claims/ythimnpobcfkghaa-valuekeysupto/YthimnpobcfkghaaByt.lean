/- Bytes: numbers as bytes, rows of bytes that grow. -/
import Derived.Test.YthimnpobcfkghaaLess
import Derived.Deep.AppendLies
import Derived.Lib.AppendStr
import Derived.Maps.AppendAt
namespace Go.Proofs.Ythimnpobcfkghaa
open Go.RowKit
attribute [local go_sem ↓] Go.wp_at_zero Go.wp_at_succ

/- k bytes of a number, the highest first -/
def beN : Nat → Nat → List UInt8
  | _, 0 => []
  | n, k + 1 => beN (n / 256) k ++ [UInt8.ofNat n]
theorem beN_len : ∀ n k, (beN n k).length = k
  | _, 0 => rfl
  | n, k + 1 => by show (beN (n / 256) k ++ [UInt8.ofNat n]).length = k + 1; simp [beN_len]
def valsB (l : List UInt8) : List Value := l.map fun b => .int .u8 b.toNat
theorem valsB_app (a b : List UInt8) : valsB a ++ valsB b = valsB (a ++ b) := by simp [valsB]
theorem valsB_one (l : List UInt8) (x : Nat) : valsB l ++ [.int .u8 ((x : Int) % 256)] = valsB (l ++ [UInt8.ofNat x]) := by
  simp [valsB]
theorem infoB : (Try.prog.info? 5).map (fun i => (i.zero, i.size, i.bytes)) = some (some (.int .u8 0), 1, 1) := by kernel_rfl

theorem eight_step {w1 : World} {base : Nat} {v : Value} {n x : Nat} {xs : List UInt8} (i : Nat) (hi : i < 8) (c : Nat) (hc : c = 256 ^ (7 - i)) (h : w1.ownsRow base 5 1 v (n + i + 1) (valsB (xs ++ beN (x / 256 ^ (8 - i)) i) ++ [.int .u8 ((x : Int) / (c : Int) % 256)])) :
    w1.ownsRow base 5 1 v (n + (i + 1)) (valsB (xs ++ beN (x / 256 ^ (8 - (i + 1))) (i + 1))) := by
  have e : ((x : Int) / (c : Int)) = ((x / c : Nat) : Int) := by omega
  rw [e, valsB_one, List.append_assoc] at h
  have e2 : beN (x / 256 ^ (8 - (i + 1))) (i + 1) = beN (x / 256 ^ (8 - i)) i ++ [UInt8.ofNat (x / c)] := by
    show beN (x / 256 ^ (8 - (i + 1)) / 256) i ++ [UInt8.ofNat (x / 256 ^ (8 - (i + 1)))] = _
    rw [Nat.div_div_eq_div_mul, ← Nat.pow_succ, show (8 - (i + 1)).succ = 8 - i by omega, show 8 - (i + 1) = 7 - i by omega, ← hc]
  rw [e2]
  exact h
set_option maxRecDepth 20000 in
set_option maxHeartbeats 1000000 in
theorem vappEight (base : Nat) (v : Value) (n : Nat) (xs : List UInt8) (x : Nat) (w : World) (ho : w.ownsRow base 5 1 v n (valsB xs)) (hbase : base ≤ w.heap.size) (hn : n ≤ 1099511627776) (hx : x < 18446744073709551616) :
    Calls Try.prog 63 #[v, .int .u64 x] w fun e w' => ∃ v', e = .returned v' ∧ w'.ownsRow base 5 1 v' (n + 8) (valsB (xs ++ beN x 8)) ∧ Below base w w' := by
  obtain ⟨i0, hi, hz0, hz1, hz2⟩ := info_parts infoB
  have HO : Hid (w.ownsRow base 5 1 v n (valsB xs)) := ho
  clear ho
  go_enter Try.func63, Try.ntmps63
  go_wp2_with fail
  go_loopw [0, 5] (fun u y X => ∃ i : Nat, y = .int .i64 (56 - 8 * (i : Int)) ∧ i ≤ 8 ∧ Hid (X.ownsRow base 5 1 u (n + i) (valsB (xs ++ beN (x / 256 ^ (8 - i)) i))) ∧ Hid (Below base w X)) (fun _ y _ => (intOf y + 8).toNat)
  case atStart => exact ⟨0, rfl, Nat.zero_le _, (by rw [show xs ++ beN (x / 256 ^ (8 - 0)) 0 = xs from List.append_nil xs]; exact HO.out : w.ownsRow base 5 1 v (n + 0) (valsB (xs ++ beN (x / 256 ^ (8 - 0)) 0))), Below.refl _ _⟩
  case round =>
    obtain ⟨i, rfl, hle, HO, HB⟩ := hrel
    by_cases h0 : i < 8
    · -- ROUNDS
      have hc : i = 0 ∨ i = 1 ∨ i = 2 ∨ i = 3 ∨ i = 4 ∨ i = 5 ∨ i = 6 ∨ i = 7 := by omega
      clear h0 hle
      rcases hc with rfl | rfl | rfl | rfl | rfl | rfl | rfl | rfl
      · rw [show (56 - 8 * ((0 : Nat) : Int)) = 56 from rfl]
        go_wp2_with (at_builtin; go_must (refine wpList_append_lies _ rfl _ _ _ rfl base 5 i0 (.int .u8 0) 1 1 Try.underlying66 hi hz0 hz1 hz2 rfl (by decide) _ (n + 0) _ rfl (World.ownsRow.alloc HO.out _) _ 1 1 [.int .u8 ((x : Int) / 72057594037927936)] rfl rfl ?q1 ?q2 (by decide) ?q3 ?q4 ?q5 _ rfl ?_))
        (try (case q1 => exact cell_one_new _ _ _))
        case q2 => first | (intro u hu; simp at hu; rw [hu]; rfl) | rfl | simp
        case q3 => unfold maxLen; omega
        case q4 => omega
        case q5 => have := Below.size HB.out; simp; omega
        intro g1 cap1 w1 hown1 hgrow hat hlt1
        have HB1 : Hid (Below base w w1) := (Below.alloc HB.out (Nat.le_trans hbase (Below.size HB.out)) _).grown hgrow (Nat.le_trans hbase (by have := Below.size HB.out; simp; omega)) (fun k hk => ((World.ownsRow.lt HO.out) k hk).1)
        have HO1 : Hid (w1.ownsRow base 5 1 (.slice (some ⟨g1, 0, none⟩) (n + 1) cap1) (n + 1) (valsB (xs ++ beN (x / 256 ^ (8 - 1)) 1))) := eight_step 0 (by omega) 72057594037927936 rfl (by rw [show ((x : Int) / ((72057594037927936 : Nat) : Int) % 256) = (x : Int) / 72057594037927936 by omega]; exact hown1)
        clear hown1 hgrow hat hlt1
        go_wp2
        go_roundw
        case rel => exact ⟨1, rfl, by omega, HO1, HB1⟩
        case measure => simp [intOf]
      · rw [show (56 - 8 * ((1 : Nat) : Int)) = 48 from rfl]
        go_wp2_with (at_builtin; go_must (refine wpList_append_lies _ rfl _ _ _ rfl base 5 i0 (.int .u8 0) 1 1 Try.underlying66 hi hz0 hz1 hz2 rfl (by decide) _ (n + 1) _ rfl (World.ownsRow.alloc HO.out _) _ 1 1 [.int .u8 ((x : Int) / 281474976710656 % 256)] rfl rfl ?q1 ?q2 (by decide) ?q3 ?q4 ?q5 _ rfl ?_))
        (try (case q1 => exact cell_one_new _ _ _))
        case q2 => first | (intro u hu; simp at hu; rw [hu]; rfl) | rfl | simp
        case q3 => unfold maxLen; omega
        case q4 => omega
        case q5 => have := Below.size HB.out; simp; omega
        intro g1 cap1 w1 hown1 hgrow hat hlt1
        have HB1 : Hid (Below base w w1) := (Below.alloc HB.out (Nat.le_trans hbase (Below.size HB.out)) _).grown hgrow (Nat.le_trans hbase (by have := Below.size HB.out; simp; omega)) (fun k hk => ((World.ownsRow.lt HO.out) k hk).1)
        have HO1 : Hid (w1.ownsRow base 5 1 (.slice (some ⟨g1, 0, none⟩) (n + 2) cap1) (n + 2) (valsB (xs ++ beN (x / 256 ^ (8 - 2)) 2))) := eight_step 1 (by omega) 281474976710656 rfl hown1
        clear hown1 hgrow hat hlt1
        go_wp2
        go_roundw
        case rel => exact ⟨2, rfl, by omega, HO1, HB1⟩
        case measure => simp [intOf]
      · rw [show (56 - 8 * ((2 : Nat) : Int)) = 40 from rfl]
        go_wp2_with (at_builtin; go_must (refine wpList_append_lies _ rfl _ _ _ rfl base 5 i0 (.int .u8 0) 1 1 Try.underlying66 hi hz0 hz1 hz2 rfl (by decide) _ (n + 2) _ rfl (World.ownsRow.alloc HO.out _) _ 1 1 [.int .u8 ((x : Int) / 1099511627776 % 256)] rfl rfl ?q1 ?q2 (by decide) ?q3 ?q4 ?q5 _ rfl ?_))
        (try (case q1 => exact cell_one_new _ _ _))
        case q2 => first | (intro u hu; simp at hu; rw [hu]; rfl) | rfl | simp
        case q3 => unfold maxLen; omega
        case q4 => omega
        case q5 => have := Below.size HB.out; simp; omega
        intro g1 cap1 w1 hown1 hgrow hat hlt1
        have HB1 : Hid (Below base w w1) := (Below.alloc HB.out (Nat.le_trans hbase (Below.size HB.out)) _).grown hgrow (Nat.le_trans hbase (by have := Below.size HB.out; simp; omega)) (fun k hk => ((World.ownsRow.lt HO.out) k hk).1)
        have HO1 : Hid (w1.ownsRow base 5 1 (.slice (some ⟨g1, 0, none⟩) (n + 3) cap1) (n + 3) (valsB (xs ++ beN (x / 256 ^ (8 - 3)) 3))) := eight_step 2 (by omega) 1099511627776 rfl hown1
        clear hown1 hgrow hat hlt1
        go_wp2
        go_roundw
        case rel => exact ⟨3, rfl, by omega, HO1, HB1⟩
        case measure => simp [intOf]
      · rw [show (56 - 8 * ((3 : Nat) : Int)) = 32 from rfl]
        go_wp2_with (at_builtin; go_must (refine wpList_append_lies _ rfl _ _ _ rfl base 5 i0 (.int .u8 0) 1 1 Try.underlying66 hi hz0 hz1 hz2 rfl (by decide) _ (n + 3) _ rfl (World.ownsRow.alloc HO.out _) _ 1 1 [.int .u8 ((x : Int) / 4294967296 % 256)] rfl rfl ?q1 ?q2 (by decide) ?q3 ?q4 ?q5 _ rfl ?_))
        (try (case q1 => exact cell_one_new _ _ _))
        case q2 => first | (intro u hu; simp at hu; rw [hu]; rfl) | rfl | simp
        case q3 => unfold maxLen; omega
        case q4 => omega
        case q5 => have := Below.size HB.out; simp; omega
        intro g1 cap1 w1 hown1 hgrow hat hlt1
        have HB1 : Hid (Below base w w1) := (Below.alloc HB.out (Nat.le_trans hbase (Below.size HB.out)) _).grown hgrow (Nat.le_trans hbase (by have := Below.size HB.out; simp; omega)) (fun k hk => ((World.ownsRow.lt HO.out) k hk).1)
        have HO1 : Hid (w1.ownsRow base 5 1 (.slice (some ⟨g1, 0, none⟩) (n + 4) cap1) (n + 4) (valsB (xs ++ beN (x / 256 ^ (8 - 4)) 4))) := eight_step 3 (by omega) 4294967296 rfl hown1
        clear hown1 hgrow hat hlt1
        go_wp2
        go_roundw
        case rel => exact ⟨4, rfl, by omega, HO1, HB1⟩
        case measure => simp [intOf]
      · rw [show (56 - 8 * ((4 : Nat) : Int)) = 24 from rfl]
        go_wp2_with (at_builtin; go_must (refine wpList_append_lies _ rfl _ _ _ rfl base 5 i0 (.int .u8 0) 1 1 Try.underlying66 hi hz0 hz1 hz2 rfl (by decide) _ (n + 4) _ rfl (World.ownsRow.alloc HO.out _) _ 1 1 [.int .u8 ((x : Int) / 16777216 % 256)] rfl rfl ?q1 ?q2 (by decide) ?q3 ?q4 ?q5 _ rfl ?_))
        (try (case q1 => exact cell_one_new _ _ _))
        case q2 => first | (intro u hu; simp at hu; rw [hu]; rfl) | rfl | simp
        case q3 => unfold maxLen; omega
        case q4 => omega
        case q5 => have := Below.size HB.out; simp; omega
        intro g1 cap1 w1 hown1 hgrow hat hlt1
        have HB1 : Hid (Below base w w1) := (Below.alloc HB.out (Nat.le_trans hbase (Below.size HB.out)) _).grown hgrow (Nat.le_trans hbase (by have := Below.size HB.out; simp; omega)) (fun k hk => ((World.ownsRow.lt HO.out) k hk).1)
        have HO1 : Hid (w1.ownsRow base 5 1 (.slice (some ⟨g1, 0, none⟩) (n + 5) cap1) (n + 5) (valsB (xs ++ beN (x / 256 ^ (8 - 5)) 5))) := eight_step 4 (by omega) 16777216 rfl hown1
        clear hown1 hgrow hat hlt1
        go_wp2
        go_roundw
        case rel => exact ⟨5, rfl, by omega, HO1, HB1⟩
        case measure => simp [intOf]
      · rw [show (56 - 8 * ((5 : Nat) : Int)) = 16 from rfl]
        go_wp2_with (at_builtin; go_must (refine wpList_append_lies _ rfl _ _ _ rfl base 5 i0 (.int .u8 0) 1 1 Try.underlying66 hi hz0 hz1 hz2 rfl (by decide) _ (n + 5) _ rfl (World.ownsRow.alloc HO.out _) _ 1 1 [.int .u8 ((x : Int) / 65536 % 256)] rfl rfl ?q1 ?q2 (by decide) ?q3 ?q4 ?q5 _ rfl ?_))
        (try (case q1 => exact cell_one_new _ _ _))
        case q2 => first | (intro u hu; simp at hu; rw [hu]; rfl) | rfl | simp
        case q3 => unfold maxLen; omega
        case q4 => omega
        case q5 => have := Below.size HB.out; simp; omega
        intro g1 cap1 w1 hown1 hgrow hat hlt1
        have HB1 : Hid (Below base w w1) := (Below.alloc HB.out (Nat.le_trans hbase (Below.size HB.out)) _).grown hgrow (Nat.le_trans hbase (by have := Below.size HB.out; simp; omega)) (fun k hk => ((World.ownsRow.lt HO.out) k hk).1)
        have HO1 : Hid (w1.ownsRow base 5 1 (.slice (some ⟨g1, 0, none⟩) (n + 6) cap1) (n + 6) (valsB (xs ++ beN (x / 256 ^ (8 - 6)) 6))) := eight_step 5 (by omega) 65536 rfl hown1
        clear hown1 hgrow hat hlt1
        go_wp2
        go_roundw
        case rel => exact ⟨6, rfl, by omega, HO1, HB1⟩
        case measure => simp [intOf]
      · rw [show (56 - 8 * ((6 : Nat) : Int)) = 8 from rfl]
        go_wp2_with (at_builtin; go_must (refine wpList_append_lies _ rfl _ _ _ rfl base 5 i0 (.int .u8 0) 1 1 Try.underlying66 hi hz0 hz1 hz2 rfl (by decide) _ (n + 6) _ rfl (World.ownsRow.alloc HO.out _) _ 1 1 [.int .u8 ((x : Int) / 256 % 256)] rfl rfl ?q1 ?q2 (by decide) ?q3 ?q4 ?q5 _ rfl ?_))
        (try (case q1 => exact cell_one_new _ _ _))
        case q2 => first | (intro u hu; simp at hu; rw [hu]; rfl) | rfl | simp
        case q3 => unfold maxLen; omega
        case q4 => omega
        case q5 => have := Below.size HB.out; simp; omega
        intro g1 cap1 w1 hown1 hgrow hat hlt1
        have HB1 : Hid (Below base w w1) := (Below.alloc HB.out (Nat.le_trans hbase (Below.size HB.out)) _).grown hgrow (Nat.le_trans hbase (by have := Below.size HB.out; simp; omega)) (fun k hk => ((World.ownsRow.lt HO.out) k hk).1)
        have HO1 : Hid (w1.ownsRow base 5 1 (.slice (some ⟨g1, 0, none⟩) (n + 7) cap1) (n + 7) (valsB (xs ++ beN (x / 256 ^ (8 - 7)) 7))) := eight_step 6 (by omega) 256 rfl hown1
        clear hown1 hgrow hat hlt1
        go_wp2
        go_roundw
        case rel => exact ⟨7, rfl, by omega, HO1, HB1⟩
        case measure => simp [intOf]
      · rw [show (56 - 8 * ((7 : Nat) : Int)) = 0 from rfl]
        go_wp2_with (at_builtin; go_must (refine wpList_append_lies _ rfl _ _ _ rfl base 5 i0 (.int .u8 0) 1 1 Try.underlying66 hi hz0 hz1 hz2 rfl (by decide) _ (n + 7) _ rfl (World.ownsRow.alloc HO.out _) _ 1 1 [.int .u8 ((x : Int) % 256)] rfl rfl ?q1 ?q2 (by decide) ?q3 ?q4 ?q5 _ rfl ?_))
        (try (case q1 => exact cell_one_new _ _ _))
        case q2 => first | (intro u hu; simp at hu; rw [hu]; rfl) | rfl | simp
        case q3 => unfold maxLen; omega
        case q4 => omega
        case q5 => have := Below.size HB.out; simp; omega
        intro g1 cap1 w1 hown1 hgrow hat hlt1
        have HB1 : Hid (Below base w w1) := (Below.alloc HB.out (Nat.le_trans hbase (Below.size HB.out)) _).grown hgrow (Nat.le_trans hbase (by have := Below.size HB.out; simp; omega)) (fun k hk => ((World.ownsRow.lt HO.out) k hk).1)
        have HO1 : Hid (w1.ownsRow base 5 1 (.slice (some ⟨g1, 0, none⟩) (n + 8) cap1) (n + 8) (valsB (xs ++ beN (x / 256 ^ (8 - 8)) 8))) := eight_step 7 (by omega) 1 rfl (by rw [show ((x : Int) / ((1 : Nat) : Int) % 256) = (x : Int) % 256 by omega]; exact hown1)
        clear hown1 hgrow hat hlt1
        go_wp2
        go_roundw
        case rel => exact ⟨8, rfl, by omega, HO1, HB1⟩
        case measure => simp [intOf]
    · obtain rfl : i = 8 := by omega
      go_wp2
      go_ret
      exact ⟨_, rfl, by simpa using HO.out, HB.out⟩
end Go.Proofs.Ythimnpobcfkghaa
