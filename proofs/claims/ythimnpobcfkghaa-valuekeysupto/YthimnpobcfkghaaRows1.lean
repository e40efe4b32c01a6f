/- The contracts of relstoreref.OrderRows, relstorelaw.sameValues and back at lists that may be empty. -/
import Derived.Test.YthimnpobcfkghaaRows0
import Derived.Test.YthimnpobcfkghaaSmall
namespace Go.Proofs.Ythimnpobcfkghaa
open Go.RowKit
attribute [local go_sem ↓] Go.wp_at_zero Go.wp_at_succ

/- a list as a slice: empty, or values in a block -/
def LiesA (w : World) (a : Option Addr) (n : Nat) (K N : Nat → Int) (S : Nat → ByteArray) : Prop := n = 0 ∨ ∃ b off, a = some ⟨b, off, none⟩ ∧ Lies w b off n K N S
theorem LiesA.below {w X : World} {a : Option Addr} {n : Nat} {K N : Nat → Int} {S : Nat → ByteArray} (h : LiesA w a n K N S) (hb : Below w.heap.size w X) : LiesA X a n K N S := by
  rcases h with h | ⟨b, off, e, h⟩
  · exact Or.inl h
  · exact Or.inr ⟨b, off, e, h.below hb⟩
theorem ordL_0 (f : Nat → Int) (m : Nat) : ordL f 0 m = signI (decide (0 < m)) false := by
  rw [ordL_end (by rw [Nat.zero_min]; rfl)]
  unfold cmpI signI
  by_cases h : 0 < m
  · rw [if_pos (by omega)]; simp [h]
  · rw [if_neg (by omega), if_neg (by omega)]; simp [h]
theorem ordL_m0 (f : Nat → Int) {n : Nat} (h : 0 < n) : ordL f n 0 = 1 := by
  rw [ordL_end (by rw [Nat.min_zero]; rfl)]
  unfold cmpI; rw [if_neg (by omega), if_pos (by omega)]

set_option maxHeartbeats 1000000 in
theorem csame (g n cap : Nat) (a : Option Addr) (cap' : Nat) (K N : Nat → Int) (S : Nat → ByteArray) (w : World) (hA : Lies w g 0 n K N S) (hB : LiesA w a n K N S) (hn : n ≤ 4398046511104) :
    Calls Try.prog 13 #[.slice (some ⟨g, 0, none⟩) n cap, .slice a n cap'] w fun e w' => e = .returned (.bool true) ∧ Below w.heap.size w w' := by
  by_cases h0 : n = 0
  · subst h0
    clear hA hB hn
    go_enter Try.func13, Try.ntmps13
    go_wp2
    refine wp_loop_rounds 1 ?_
    rw [rounds_succ]
    go_wp2
    go_ret
    exact ⟨rfl, Below.refl _ _⟩
  · rcases hB with hB | ⟨b', off', rfl, hB⟩
    · exact absurd hB h0
    · have HA : Hid (Lies w g 0 n K N S) := hA
      have HB : Hid (Lies w b' off' n K N S) := hB
      clear hA hB h0
      go_enter Try.func13, Try.ntmps13
      go_wp2
      go_loopw [13] (fun x X => ∃ k : Nat, x = .int .i64 k ∧ k ≤ n ∧ Below w.heap.size w X) (fun x _ => n - (intOf x).toNat)
      case atStart => exact ⟨0, rfl, Nat.zero_le _, Below.refl _ _⟩
      case round =>
        obtain ⟨k, rfl, hk, hb0⟩ := hrel
        by_cases hlt : k < n
        · have ki : (0 : Int) ≤ (k : Int) := by omega
          have kn' : (k : Int) < (n : Int) := by omega
          obtain ⟨a0, a1, a2⟩ := (HA.out.below hb0) k hlt
          obtain ⟨b0, b1, b2⟩ := (HB.out.below hb0) k hlt
          have za := (HA.out.below hb0).lt (by omega)
          have zb := (HB.out.below hb0).lt (by omega)
          rw [Nat.zero_add] at a0 a1 a2
          go_wp2_with fail
          go_region_held3 (fun w' => Below w.heap.size w w' ∧ g < w'.heap.size ∧ b' < w'.heap.size ∧ w'.cell? ⟨g, k * 3, none⟩ = some (.int .i64 (K k)) ∧ w'.cell? ⟨g, k * 3 + 1, none⟩ = some (.int .i64 (N k)) ∧ w'.cell? ⟨g, k * 3 + 1 + 1, none⟩ = some (.string (S k)) ∧ w'.cell? ⟨b', off' + k * 3, none⟩ = some (.int .i64 (K k)) ∧ w'.cell? ⟨b', off' + k * 3 + 1, none⟩ = some (.int .i64 (N k)) ∧ w'.cell? ⟨b', off' + k * 3 + 1 + 1, none⟩ = some (.string (S k)))
            (first | exact ⟨hb0.drew, za, zb, a0, a1, a2, b0, b1, b2⟩ | (go_split_ands; and_intros <;> assumption) | (go_split_ands; exact ⟨keepBelow (by assumption) hb, keepSize hb (by assumption), keepSize hb (by assumption), keepCell hb (by assumption) (by assumption), keepCell hb (by assumption) (by assumption), keepCell hb (by assumption) (by assumption), keepCell hb (by assumption) (by assumption), keepCell hb (by assumption) (by assumption), keepCell hb (by assumption) (by assumption)⟩))
            (first | (go_at_call 44; refine (lsame _ _ _ _).mono ?_; rintro e w' ⟨rfl, hb⟩))
          go_wp2
          go_split_ands
          go_roundw
          case rel => exact ⟨k + 1, by go_num, by omega, by assumption⟩
          case measure => simp [intOf]; omega
        · have Hb : Hid _ := hb0
          clear hb0
          go_wp2
          go_ret
          exact ⟨rfl, Hb.out⟩

set_option maxHeartbeats 1000000 in
theorem cback (g n cap : Nat) (a : Option Addr) (cap' : Nat) (K N : Nat → Int) (S : Nat → ByteArray) (w : World) (hg : g < w.heap.size) (hcap : n + 2 ≤ cap) (hA : Lies w g 0 n K N S) (hB : LiesA w a n K N S) (hn : n ≤ 4398046511104)
    (m0 : w.cell? ⟨g, n * 3, none⟩ = some (.int .i64 9)) (m1 : w.cell? ⟨g, n * 3 + 1, none⟩ = some (.int .i64 7)) (m2 : w.cell? ⟨g, n * 3 + 1 + 1, none⟩ = some (.string ⟨#[]⟩))
    (m3 : w.cell? ⟨g, (n + 1) * 3, none⟩ = some (.int .i64 9)) (m4 : w.cell? ⟨g, (n + 1) * 3 + 1, none⟩ = some (.int .i64 8)) (m5 : w.cell? ⟨g, (n + 1) * 3 + 1 + 1, none⟩ = some (.string ⟨#[]⟩)) :
    Calls Try.prog 12 #[.slice (some ⟨g, 0, none⟩) (n + 2) cap, .slice a n cap'] w fun e w' => e = .returned (.bool true) ∧ Below w.heap.size w w' := by
  have HA : Hid (Lies w g 0 n K N S) := hA
  have HB : Hid (LiesA w a n K N S) := hB
  clear hA hB
  go_enter Try.func12, Try.ntmps12
  go_wp2_with fail
  refine (csame g n cap a cap' K N S _ HA.out HB.out hn).mono ?_
  rintro e w1 ⟨rfl, hb⟩
  have Hb : Hid _ := hb
  have q0 := keepCell hb hg m0
  have q1 := keepCell hb hg m1
  have q2 := keepCell hb hg m2
  have q3 := keepCell hb hg m3
  have q4 := keepCell hb hg m4
  have q5 := keepCell hb hg m5
  clear hb m0 m1 m2 m3 m4 m5 hg
  have i1 : (0 : Int) ≤ (n : Int) := by omega
  go_wp2
  go_ret
  exact ⟨rfl, Hb.out⟩
end Go.Proofs.Ythimnpobcfkghaa
