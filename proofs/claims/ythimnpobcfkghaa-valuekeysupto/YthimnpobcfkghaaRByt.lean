/- relstoreref's bytes and unbytes, over rows of bytes -/
import Derived.Test.YthimnpobcfkghaaByt2
namespace Go.Proofs.Ythimnpobcfkghaa
open Go.RowKit Go.Lib
attribute [local go_sem ↓] Go.wp_at_zero Go.wp_at_succ
theorem one_textN (X : World) (x : Nat) : (convert 66 9 (.slice (some ⟨X.heap.size, 0, none⟩) 1 1)).run Try.prog (X.alloc (.cells #[.int .u8 ((x : Int) % 256)] 5)) = .ok (.string ⟨#[UInt8.ofNat x]⟩) (X.alloc (.cells #[.int .u8 ((x : Int) % 256)] 5)) := by
  have := run_convert_bytes_back (P := Try.prog) (X.alloc (.cells #[.int .u8 ((x : Int) % 256)] 5)) 66 9 5 ⟨X.heap.size, 0, none⟩ 1 [UInt8.ofNat x] Try.underlying66 Try.underlying5 Try.underlying9 (fun j hj => by
    have : j = 0 := by simpa using hj
    subst this
    rw [Addr.add_lit]
    simp only [World.cell?, World.alloc_heap_new]
    simp)
  exact this
theorem app_mkN (a b : List UInt8) : ((⟨a.toArray⟩ : ByteArray) ++ ⟨b.toArray⟩) = ⟨(a ++ b).toArray⟩ := by
  apply ByteArray.ext
  rw [ByteArray.data_append]
  simp
theorem size_mkN (l : List UInt8) : (⟨l.toArray⟩ : ByteArray).size = l.length := by simp [ByteArray.size]
set_option maxHeartbeats 600000 in
theorem rbytesN (n k : Nat) (w : World) (hk : k ≤ 8) (hn : n < 18446744073709551616) :
    Calls Try.prog 43 #[.int .u64 n, .int .i64 k] w fun e w' => e = .returned (.string ⟨(beN n k).toArray⟩) ∧ Below w.heap.size w w' := by
  go_enter Try.func43, Try.ntmps43
  go_wp2_with fail
  go_loopw [0, 1, 5] (fun x y z X => ∃ (m j : Nat) (l : List UInt8), x = .int .u64 m ∧ y = .int .i64 j ∧ z = .string ⟨l.toArray⟩ ∧ m < 18446744073709551616 ∧ j ≤ 8 ∧ l.length ≤ 8 ∧ Hid (beN n k = beN m j ++ l ∧ j + l.length = k) ∧ Hid (Below w.heap.size w X)) (fun _ y _ _ => (intOf y).toNat)
  case atStart => exact ⟨n, k, [], rfl, rfl, rfl, hn, hk, by simp, ⟨by simp, by simp⟩, Below.refl _ _⟩
  case round =>
    obtain ⟨m, j, l, rfl, rfl, rfl, hm, hj, hl, HE, HB⟩ := hrel
    by_cases h0 : j = 0
    · subst h0
      go_wp2_with fail
      go_ret
      exact ⟨by rw [HE.out.1]; rfl, HB.out⟩
    · obtain ⟨i, rfl⟩ : ∃ i, j = i + 1 := ⟨j - 1, by omega⟩
      have hcv := one_textN wr m
      have hsz : (⟨l.toArray⟩ : ByteArray).size = l.length := size_mkN l
      go_wp2_with fail
      refine ⟨⟨m / 256, i, UInt8.ofNat m :: l, by congr 1, rfl, congrArg Value.string (app_mkN [UInt8.ofNat m] l), by omega, by omega, ?_, ⟨?_, ?_⟩, HB.out.alloc HB.out.size _⟩, by simp [intOf]⟩
      · have := HE.out.2
        simp only [List.length_cons]
        omega
      · rw [HE.out.1]
        show (beN (m / 256) i ++ [UInt8.ofNat m]) ++ l = _
        simp
      · have := HE.out.2
        simp only [List.length_cons]
        omega
def bytN (s : ByteArray) (i : Nat) : Nat := (s[i]!).toNat
theorem bytN_lt (s : ByteArray) (i : Nat) : bytN s i < 256 := UInt8.toNat_lt _
theorem bytN_get {s : ByteArray} {i : Nat} (h : i < s.size) : (s[i]).toNat = bytN s i := by
  unfold bytN
  rw [getElem!_pos s i h]
def ubN (s : ByteArray) : Nat → Nat
  | 0 => 0
  | k + 1 => 256 * ubN s k + bytN s k
theorem ubN_lt (s : ByteArray) : ∀ k, ubN s k < 256 ^ k
  | 0 => by show 0 < 1; omega
  | k + 1 => by
    have := ubN_lt s k
    have := bytN_lt s k
    show 256 * ubN s k + bytN s k < 256 ^ (k + 1)
    rw [Nat.pow_succ]
    omega
theorem ubN_7 (s : ByteArray) {k : Nat} (h : k ≤ 7) : ubN s k < 72057594037927936 := by
  have h1 := ubN_lt s k
  have h2 : 256 ^ k ≤ 256 ^ 7 := Nat.pow_le_pow_right (by decide) h
  have : (256 : Nat) ^ 7 = 72057594037927936 := by decide
  omega
set_option maxHeartbeats 600000 in
theorem runbytesN (s : ByteArray) (w : World) (hs : s.size ≤ 8) :
    Calls Try.prog 39 #[.string s] w fun e w' => e = .returned (.int .u64 (ubN s s.size)) ∧ w' = w := by
  go_enter Try.func39, Try.ntmps39
  go_wp2_with fail
  go_loop [3, 4] (fun x y => ∃ k : Nat, y = .int .i64 k ∧ x = .int .u64 (ubN s k) ∧ k ≤ s.size) (fun _ y => s.size - (intOf y).toNat)
  case atStart => exact ⟨0, rfl, rfl, Nat.zero_le _⟩
  case round =>
    obtain ⟨k, rfl, rfl, hk⟩ := hrel
    by_cases h0 : k < s.size
    · have h1 : (k : Int) < (s.size : Int) := by omega
      have b0 := bytN_lt s k
      have g0 := bytN_get h0
      have u0 := ubN_7 s (show k ≤ 7 by omega)
      have h3 : ubN s (k + 1) = 256 * ubN s k + bytN s k := rfl
      go_wp2
      go_round
      case rel => exact ⟨k + 1, by go_num, by rw [h3]; go_num, by omega⟩
      case measure => simp [intOf]; omega
    · obtain rfl : k = s.size := by omega
      go_wp2
      go_ret
      exact ⟨rfl, rfl⟩
end Go.Proofs.Ythimnpobcfkghaa
