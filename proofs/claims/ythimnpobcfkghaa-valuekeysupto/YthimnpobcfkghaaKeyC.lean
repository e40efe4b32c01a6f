/- value.Key -/
import Derived.Test.YthimnpobcfkghaaKeyB
namespace Go.Proofs.Ythimnpobcfkghaa
open Go.RowKit Go.Lib
attribute [local go_sem ↓] Go.wp_at_zero Go.wp_at_succ
theorem nil_text (X : World) : (convert 66 9 (.slice none 0 0)).run Try.prog X = .ok (.string ⟨#[]⟩) X := by
  first | kernel_rfl | (simp [convert, go_sem, Try.underlying66, Try.underlying5, Try.underlying9])
theorem kyV_pos (k n : Int) (s : ByteArray) : 0 < (kyV k n s).length := by
  unfold kyV
  split
  · simp
  · split
    · simp
    · split <;> simp
theorem lenS_mono (S : Nat → ByteArray) {i : Nat} : ∀ n, i ≤ n → lenS S i ≤ lenS S n := by
  intro n h
  induction n with
  | zero => obtain rfl : i = 0 := by omega
            exact Nat.le_refl _
  | succ n ih =>
    by_cases e : i = n + 1
    · subst e; exact Nat.le_refl _
    · have := ih (by omega)
      show lenS S i ≤ lenS S n + (S n).size
      omega
theorem lenS_at (S : Nat → ByteArray) {i n : Nat} (h : i < n) : lenS S i + (S i).size ≤ lenS S n := lenS_mono S n (show i + 1 ≤ n from h)
set_option maxRecDepth 20000 in
set_option maxHeartbeats 1000000 in
theorem vkey (a : Option Addr) (n cap : Nat) (K N : Nat → Int) (S : Nat → ByteArray) (w : World) (hA : LiesA w a n K N S) (hn : 9 * n + 2 * lenS S n ≤ 1000000000000) :
    Calls Try.prog 10 #[.slice a n cap] w fun e w' => e = .returned (.string ⟨(kyL K N S n).toArray⟩) ∧ Below w.heap.size w w' := by
  have HA : Hid (LiesA w a n K N S) := hA
  clear hA
  go_enter Try.func10, Try.ntmps10
  go_wp2_with fail
  go_loopw [3, 8] (fun v y X => ∃ i : Nat, y = .int .i64 i ∧ i ≤ n ∧ Hid (i = 0 → v = .slice none 0 0) ∧ Hid (X.ownsRow w.heap.size 5 1 v (kyL K N S i).length (valsB (kyL K N S i))) ∧ Hid (Below w.heap.size w X)) (fun _ y _ => n - (intOf y).toNat)
  case atStart => exact ⟨0, rfl, Nat.zero_le _, (fun _ => rfl : (0 : Nat) = 0 → Value.slice none 0 0 = .slice none 0 0), World.ownsRow_nil _ _ _ _, Below.refl _ _⟩
  case round =>
    obtain ⟨i, rfl, hi, HZ, HO, HB⟩ := hrel
    have zb := HB.out.size
    by_cases hlt : i < n
    · have ki : (0 : Int) ≤ (i : Int) := by omega
      have kn : (i : Int) < (n : Int) := by omega
      obtain ⟨b, off, rfl, hl⟩ : ∃ b off, a = some ⟨b, off, none⟩ ∧ Lies wr b off n K N S := by
        rcases HA.out.below HB.out with h | h
        · omega
        · exact h
      obtain ⟨a0, a1, a2⟩ := hl i hlt
      have za := hl.lt (by omega)
      clear hl
      have hL := kyL_len K N S i
      have hl1 := lenS_at S hlt
      go_wp2_with fail
      refine (vappKey w.heap.size _ _ _ (K i) (N i) (S i) _ (World.ownsRow.alloc HO.out _) (by simp; omega) (by omega)).mono ?_
      rintro e w1 ⟨v1, rfl, ho1, hb1⟩
      have HO1 : Hid (w1.ownsRow w.heap.size 5 1 v1 (kyL K N S (i + 1)).length (valsB (kyL K N S (i + 1)))) := by
        show w1.ownsRow w.heap.size 5 1 v1 (kyL K N S i ++ kyV (K i) (N i) (S i)).length (valsB (kyL K N S i ++ kyV (K i) (N i) (S i)))
        rw [List.length_append]; exact ho1
      have HB1 : Hid (Below w.heap.size w w1) := (HB.out.alloc zb _).trans hb1
      clear ho1 hb1
      go_wp2
      go_roundw
      case rel => exact ⟨i + 1, by go_num, by omega, (fun h => absurd h (by omega) : i + 1 = 0 → _), HO1, HB1⟩
      case measure => simp [intOf]; omega
    · obtain rfl : i = n := by omega
      by_cases h0 : i = 0
      · subst h0
        obtain rfl := HZ.out rfl
        have hcv := nil_text wr
        go_wp2_with fail
        go_ret
        exact ⟨rfl, HB.out⟩
      · have hpos : 0 < (kyL K N S i).length := by
          obtain ⟨j, rfl⟩ : ∃ j, i = j + 1 := ⟨i - 1, by omega⟩
          show 0 < (kyL K N S j ++ kyV (K j) (N j) (S j)).length
          have := kyV_pos (K j) (N j) (S j)
          rw [List.length_append]; omega
        have hcv := own_text HO.out hpos
        go_wp2_with fail
        go_ret
        exact ⟨rfl, HB.out⟩
end Go.Proofs.Ythimnpobcfkghaa
