/- The contracts of relstoreref's Sum, bytes and unbytes. -/
import Derived.Test.YthimnpobcfkghaaPageR0
namespace Go.Proofs.Ythimnpobcfkghaa
open Go.RowKit
attribute [local go_sem ↓] Go.wp_at_zero Go.wp_at_succ

theorem stp_odd {Y : Nat} (h : Y % 2 = 1) : stp Y = (Y / 2) ^^^ 3988292384 := by unfold stp poly; rw [h]
theorem stp_even {Y : Nat} (h : ¬ Y % 2 = 1) : stp Y = Y / 2 := by
  unfold stp poly
  rw [show Y % 2 = 0 by omega]
  simp
set_option maxHeartbeats 600000 in
theorem csumL (s : ByteArray) (w : World) (hs : s.size ≤ 1099511627776) :
    Calls Try.prog 33 #[.string s] w fun e w' => e = .returned (.int .u32 (crc s)) ∧ w' = w := by
  go_enter Try.func33, Try.ntmps33
  go_wp2
  go_loop [3, 8] (fun x y => ∃ k : Nat, y = .int .i64 k ∧ x = .int .u32 (fold s 4294967295 k) ∧ k ≤ s.size) (fun _ y => s.size - (intOf y).toNat)
  case atStart => exact ⟨0, rfl, rfl, Nat.zero_le _⟩
  case round =>
    obtain ⟨k, rfl, rfl, hk⟩ := hrel
    have hf : fold s 4294967295 k < 4294967296 := fold_lt s (by decide) k
    by_cases h0 : k < s.size
    · have h1 : (k : Int) < (s.size : Int) := by omega
      have b0 := byt_lt s k
      have g0 := byt_get h0
      have x0 := u32_xor_nat (fold s 4294967295 k) (byt s k) hf (by omega)
      have hX : fold s 4294967295 k ^^^ byt s k < 4294967296 := Nat.xor_lt_two_pow (n := 32) hf (by omega)
      go_wp2
      go_loop [3, 17] (fun x y => ∃ j : Nat, y = .int .i64 j ∧ x = .int .u32 (stps j (fold s 4294967295 k ^^^ byt s k)) ∧ j ≤ 8) (fun _ y => 8 - (intOf y).toNat)
      case atStart => exact ⟨0, rfl, rfl, Nat.zero_le _⟩
      case round =>
        obtain ⟨j, rfl, rfl, hj⟩ := hrel
        have hX' := stps_lt hX j
        by_cases h2 : j < 8
        · have h3 : (j : Int) < 8 := by omega
          have x1 := stp_bits _ hX'
          go_wp2
          exact ⟨⟨j + 1, by simp, by rw [stps_s], by omega⟩, by simp [intOf]; omega⟩
        · obtain rfl : j = 8 := by omega
          go_wp2
          exact ⟨⟨k + 1, by simp, rfl, by omega⟩, by simp [intOf]; omega⟩
    · obtain rfl : k = s.size := by omega
      have HC : Hid _ := crc_bits s
      go_wp2
      go_ret
      refine ⟨?_, rfl⟩
      show Ending.returned (.int .u32 (bits .xor .u32 IntKind.u32.max ((fold s 4294967295 s.size : Nat) : Int))) = _
      rw [HC.out]
set_option maxHeartbeats 600000 in
theorem rsum (s : ByteArray) (w : World) (hs : s.size ≤ 1099511627776) :
    Calls Try.prog 34 #[.string s] w fun e w' => e = .returned (.int .u32 (crc s)) ∧ w' = w := by
  go_enter Try.func34, Try.ntmps34
  go_wp2
  go_loop [3, 4] (fun x y => ∃ k : Nat, y = .int .i64 k ∧ x = .int .u32 (fold s 4294967295 k) ∧ k ≤ s.size) (fun _ y => s.size - (intOf y).toNat)
  case atStart => exact ⟨0, rfl, rfl, Nat.zero_le _⟩
  case round =>
    obtain ⟨k, rfl, rfl, hk⟩ := hrel
    have hf : fold s 4294967295 k < 4294967296 := fold_lt s (by decide) k
    by_cases h0 : k < s.size
    · have h1 : (k : Int) < (s.size : Int) := by omega
      have b0 := byt_lt s k
      have g0 := byt_get h0
      have x0 := u32_xor_nat (fold s 4294967295 k) (byt s k) hf (by omega)
      have hX : fold s 4294967295 k ^^^ byt s k < 4294967296 := Nat.xor_lt_two_pow (n := 32) hf (by omega)
      go_wp2
      go_loop [3, 5] (fun x y => ∃ j : Nat, y = .int .i64 j ∧ x = .int .u32 (stps j (fold s 4294967295 k ^^^ byt s k)) ∧ j ≤ 8) (fun _ y => 8 - (intOf y).toNat)
      case atStart => exact ⟨0, rfl, rfl, Nat.zero_le _⟩
      case round =>
        obtain ⟨j, rfl, rfl, hj⟩ := hrel
        have hX' := stps_lt hX j
        by_cases h2 : j < 8
        · have h3 : (j : Int) < 8 := by omega
          by_cases ho : stps j (fold s 4294967295 k ^^^ byt s k) % 2 = 1
          · have ho' : ((stps j (fold s 4294967295 k ^^^ byt s k) : Nat) : Int) % 2 = 1 := by omega
            have HX1 : Hid (bits .xor .u32 (((stps j (fold s 4294967295 k ^^^ byt s k) : Nat) : Int) / 2) 3988292384 = ((stp (stps j (fold s 4294967295 k ^^^ byt s k)) : Nat) : Int)) := by
              show bits .xor .u32 (((stps j (fold s 4294967295 k ^^^ byt s k) : Nat) : Int) / 2) 3988292384 = _
              rw [stp_odd ho, show ((stps j (fold s 4294967295 k ^^^ byt s k) : Nat) : Int) / 2 = ((stps j (fold s 4294967295 k ^^^ byt s k) / 2 : Nat) : Int) by omega]
              exact u32_xor_nat _ 3988292384 (by omega) (by decide)
            go_wp2
            exact ⟨⟨j + 1, by simp, by rw [stps_s, HX1.out], by omega⟩, by simp [intOf]; omega⟩
          · have ho' : ((stps j (fold s 4294967295 k ^^^ byt s k) : Nat) : Int) % 2 = 0 := by omega
            have HX1 : Hid (((stps j (fold s 4294967295 k ^^^ byt s k) : Nat) : Int) / 2 = ((stp (stps j (fold s 4294967295 k ^^^ byt s k)) : Nat) : Int)) := by
              show ((stps j (fold s 4294967295 k ^^^ byt s k) : Nat) : Int) / 2 = _
              rw [stp_even ho]; omega
            go_wp2
            exact ⟨⟨j + 1, by simp, by rw [stps_s, HX1.out], by omega⟩, by simp [intOf]; omega⟩
        · obtain rfl : j = 8 := by omega
          go_wp2
          exact ⟨⟨k + 1, by simp, rfl, by omega⟩, by simp [intOf]; omega⟩
    · obtain rfl : k = s.size := by omega
      have HC : Hid (4294967295 - ((fold s 4294967295 s.size : Nat) : Int) = ((crc s : Nat) : Int)) := by
        show 4294967295 - ((fold s 4294967295 s.size : Nat) : Int) = ((crc s : Nat) : Int)
        unfold crc; omega
      go_wp2
      go_ret
      refine ⟨?_, rfl⟩
      show Ending.returned (.int .u32 (4294967295 - ((fold s 4294967295 s.size : Nat) : Int))) = _
      rw [HC.out]
theorem one_text (X : World) (x : Nat) : (convert 66 9 (.slice (some ⟨X.heap.size, 0, none⟩) 1 1)).run Try.prog (X.alloc (.cells #[.int .u8 ((x : Int) % 256)] 5)) = .ok (.string ⟨#[UInt8.ofNat x]⟩) (X.alloc (.cells #[.int .u8 ((x : Int) % 256)] 5)) := by
  have := run_convert_bytes_back (P := Try.prog) (X.alloc (.cells #[.int .u8 ((x : Int) % 256)] 5)) 66 9 5 ⟨X.heap.size, 0, none⟩ 1 [UInt8.ofNat x] Try.underlying66 Try.underlying5 Try.underlying9 (fun j hj => by
    have : j = 0 := by simpa using hj
    subst this
    rw [Addr.add_lit]
    simp only [World.cell?, World.alloc_heap_new]
    simp)
  exact this
theorem app_mk (a b : List UInt8) : ((⟨a.toArray⟩ : ByteArray) ++ ⟨b.toArray⟩) = ⟨(a ++ b).toArray⟩ := by
  apply ByteArray.ext
  rw [ByteArray.data_append]
  simp

set_option maxHeartbeats 600000 in
theorem rbytes (n k : Nat) (w : World) (hk : k ≤ 8) (hn : n < 18446744073709551616) :
    Calls Try.prog 43 #[.int .u64 n, .int .i64 k] w fun e w' => e = .returned (.string ⟨(be n k).toArray⟩) ∧ Below w.heap.size w w' := by
  go_enter Try.func43, Try.ntmps43
  go_wp2_with fail
  go_loopw [0, 1, 5] (fun x y z X => ∃ (m j : Nat) (l : List UInt8), x = .int .u64 m ∧ y = .int .i64 j ∧ z = .string ⟨l.toArray⟩ ∧ m < 18446744073709551616 ∧ j ≤ 8 ∧ l.length ≤ 8 ∧ Hid (be n k = be m j ++ l ∧ j + l.length = k) ∧ Hid (Below w.heap.size w X)) (fun _ y _ _ => (intOf y).toNat)
  case atStart => exact ⟨n, k, [], rfl, rfl, rfl, hn, hk, by simp, ⟨by simp, by simp⟩, Below.refl _ _⟩
  case round =>
    obtain ⟨m, j, l, rfl, rfl, rfl, hm, hj, hl, HE, HB⟩ := hrel
    by_cases h0 : j = 0
    · subst h0
      go_wp2_with fail
      go_ret
      exact ⟨by rw [HE.out.1]; rfl, HB.out⟩
    · obtain ⟨i, rfl⟩ : ∃ i, j = i + 1 := ⟨j - 1, by omega⟩
      have hcv := one_text wr m
      have hsz : (⟨l.toArray⟩ : ByteArray).size = l.length := size_mk l
      go_wp2_with fail
      refine ⟨⟨m / 256, i, UInt8.ofNat m :: l, by congr 1, rfl, congrArg Value.string (app_mk [UInt8.ofNat m] l), by omega, by omega, ?_, ⟨?_, ?_⟩, HB.out.alloc HB.out.size _⟩, by simp [intOf]⟩
      · have := HE.out.2
        simp only [List.length_cons]
        omega
      · rw [HE.out.1]
        show (be (m / 256) i ++ [UInt8.ofNat m]) ++ l = _
        simp
      · have := HE.out.2
        simp only [List.length_cons]
        omega

/- a number of bytes -/
def ub (s : ByteArray) : Nat → Nat
  | 0 => 0
  | k + 1 => 256 * ub s k + byt s k
theorem ub_lt (s : ByteArray) : ∀ k, ub s k < 256 ^ k
  | 0 => by show 0 < 1; omega
  | k + 1 => by
    have := ub_lt s k
    have := byt_lt s k
    show 256 * ub s k + byt s k < 256 ^ (k + 1)
    rw [Nat.pow_succ]
    omega
theorem ub_4 (s : ByteArray) {k : Nat} (h : k ≤ 4) : ub s k < 4294967296 := by
  have h1 := ub_lt s k
  have h2 : 256 ^ k ≤ 256 ^ 4 := Nat.pow_le_pow_right (by decide) h
  have : (256 : Nat) ^ 4 = 4294967296 := by decide
  omega
set_option maxHeartbeats 600000 in
theorem runbytes (s : ByteArray) (w : World) (hs : s.size ≤ 4) :
    Calls Try.prog 39 #[.string s] w fun e w' => e = .returned (.int .u64 (ub s s.size)) ∧ w' = w := by
  go_enter Try.func39, Try.ntmps39
  go_wp2_with fail
  go_loop [3, 4] (fun x y => ∃ k : Nat, y = .int .i64 k ∧ x = .int .u64 (ub s k) ∧ k ≤ s.size) (fun _ y => s.size - (intOf y).toNat)
  case atStart => exact ⟨0, rfl, rfl, Nat.zero_le _⟩
  case round =>
    obtain ⟨k, rfl, rfl, hk⟩ := hrel
    by_cases h0 : k < s.size
    · have h1 : (k : Int) < (s.size : Int) := by omega
      have b0 := byt_lt s k
      have g0 := byt_get h0
      have u0 := ub_4 s (show k ≤ 4 by omega)
      have h3 : ub s (k + 1) = 256 * ub s k + byt s k := rfl
      go_wp2
      go_round
      case rel => exact ⟨k + 1, by go_num, by rw [h3]; go_num, by omega⟩
      case measure => simp [intOf]; omega
    · obtain rfl : k = s.size := by omega
      go_wp2
      go_ret
      exact ⟨rfl, rfl⟩
theorem ub_two {s : ByteArray} {a : Nat} (h : a + 2 ≤ s.size) : ub (s.extract a (a + 2)) (s.extract a (a + 2)).size = two s a := by
  have hz : (s.extract a (a + 2)).size = 2 := by rw [ByteArray.size_extract]; omega
  rw [hz]
  show 256 * (256 * 0 + byt (s.extract a (a + 2)) 0) + byt (s.extract a (a + 2)) 1 = _
  rw [byt_extract h (by omega), byt_extract h (by omega)]
  unfold two
  simp only [Nat.add_zero]
  omega
theorem ub_four {s : ByteArray} {a : Nat} (h : a + 4 ≤ s.size) : ub (s.extract a (a + 4)) (s.extract a (a + 4)).size = four s a := by
  have hz : (s.extract a (a + 4)).size = 4 := by rw [ByteArray.size_extract]; omega
  rw [hz]
  show 256 * (256 * (256 * (256 * 0 + byt (s.extract a (a + 4)) 0) + byt (s.extract a (a + 4)) 1) + byt (s.extract a (a + 4)) 2) + byt (s.extract a (a + 4)) 3 = _
  rw [byt_extract h (by omega), byt_extract h (by omega), byt_extract h (by omega), byt_extract h (by omega)]
  unfold four two
  rw [show a + 2 + 1 = a + 3 from rfl]
  simp only [Nat.add_zero]
  omega
end Go.Proofs.Ythimnpobcfkghaa
