/- The contracts of relstoreref.digit, cut and above. -/
import Derived.Test.YtmkfkjicfmllmaaDoorLong0
import Derived.Test.YtmkfkjicfmllmaaDoorLess
import Derived.Deep.QuietTactic
import Derived.BigQuiet
namespace Go.Proofs.YtmkfkjicfmllmaaDoor
open Go.RowKit
attribute [local go_sem ↓] Go.wp_at_zero Go.wp_at_succ

/- n numbers as a slice -/
def DgA (w : World) (a : Option Addr) (n : Nat) (f : Nat → Int) : Prop := n = 0 ∨ ∃ b off, a = some ⟨b, off, none⟩ ∧ b < w.heap.size ∧ ∀ i, i < n → w.cell? ⟨b, off + i, none⟩ = some (.int .i64 (f i))
theorem DgA.below {w X : World} {a : Option Addr} {n : Nat} {f : Nat → Int} (h : DgA w a n f) (hb : Below w.heap.size w X) : DgA X a n f := by
  rcases h with h | ⟨b, off, e, hlt, h⟩
  · exact Or.inl h
  · exact Or.inr ⟨b, off, e, keepSize hb hlt, fun i hi => keepCell hb hlt (h i hi)⟩
theorem DgA.less {w : World} {a : Option Addr} {n k : Nat} {f : Nat → Int} (h : DgA w a n f) (hk : k ≤ n) : DgA w a k f := by
  rcases h with h | ⟨b, off, e, hlt, h⟩
  · exact Or.inl (by omega)
  · exact Or.inr ⟨b, off, e, hlt, fun i hi => h i (by omega)⟩
theorem DgA.drewN {w : World} {a : Option Addr} {n : Nat} {f : Nat → Int} (h : DgA w a n f) (q : Nat) : DgA (w.drewN q) a n f := h.below (below_drewN (Below.refl _ _) q)

set_option maxHeartbeats 600000 in
theorem cdigit (a : Option Addr) (n cap i : Nat) (f : Nat → Int) (w : World) (h : DgA w a n f) (hi : i ≤ 10000000) :
    Calls Tryd.prog 49 #[.slice a n cap, .int .i64 i] w fun e w' => e = .returned (.int .i64 (dg f n i)) ∧ w' = w := by
  unfold dg
  by_cases h0 : i < n
  · rw [if_pos h0]
    rcases h with h | ⟨b, off, rfl, _, h⟩
    · omega
    · have hc := h i h0
      clear h
      go_enter Tryd.func49, Tryd.ntmps49
      go_wp2
      go_ret
      exact ⟨rfl, rfl⟩
  · rw [if_neg h0]
    clear h
    go_enter Tryd.func49, Tryd.ntmps49
    go_wp2
    go_ret
    exact ⟨rfl, rfl⟩

set_option maxHeartbeats 600000 in
theorem ccut (a : Option Addr) (n cap : Nat) (f : Nat → Int) (w : World) (h : DgA w a n f) (hn : n ≤ 10000000) (hcap : n ≤ cap) :
    Calls Tryd.prog 50 #[.slice a n cap] w fun e w' => ∃ k, k ≤ n ∧ e = .returned (.slice a k cap) ∧ norm f k ∧ (∀ i, k ≤ i → i < n → f i = 0) ∧ w' = w := by
  have HD : Hid (DgA w a n f) := h
  clear h
  go_enter Tryd.func50, Tryd.ntmps50
  go_wp2
  go_loop [0] (fun x => ∃ k : Nat, x = .slice a k cap ∧ k ≤ n ∧ Hid (∀ i, k ≤ i → i < n → f i = 0)) (fun x => match x with | .slice _ k _ => k | _ => 0)
  case atStart => exact ⟨n, rfl, Nat.le_refl _, (fun i h1 h2 => absurd h2 (by omega) : ∀ i, n ≤ i → i < n → f i = 0)⟩
  case round =>
    obtain ⟨k, rfl, hk, HZ⟩ := hrel
    by_cases h0 : k = 0
    · subst h0
      have HN : Hid (norm f 0) := Or.inl rfl
      go_wp2
      go_ret
      exact ⟨0, Nat.zero_le _, rfl, HN.out, HZ.out, rfl⟩
    · rcases HD.out with h | ⟨b, off, rfl, _, h⟩
      · omega
      · obtain ⟨j, rfl⟩ : ∃ j, k = j + 1 := ⟨k - 1, by omega⟩
        have hc := h j (by omega)
        clear h h0
        have e1 : ((j + 1 : Nat) : Int) - 1 = (j : Int) := by omega
        by_cases hz : (f j == 0) = true
        · have HZ' : Hid (∀ i, j ≤ i → i < n → f i = 0) := fun i h1 h2 => by
            rcases Nat.lt_or_ge j i with h | h
            · exact HZ.out i h h2
            · have : i = j := by omega
              subst this; simpa using hz
          clear HZ
          go_wp2
          go_round
          case rel => exact ⟨j, by simp, by omega, HZ'⟩
          case measure => simp
        · have hz' : (f j == 0) = false := by simpa using hz
          have HN : Hid (norm f (j + 1)) := Or.inr (by simpa using hz)
          clear hz
          go_wp2
          go_ret
          exact ⟨j + 1, hk, rfl, HN.out, HZ.out, rfl⟩

theorem drewN3 (w : World) (a b c : Nat) : ((w.drewN a).drewN b).drewN c = w.drewN (a + b + c) := by simp
theorem above_ne {f g : Nat → Int} {n m : Nat} (hf : valid f n) (hg : valid g m) (nf : norm f n) (ng : norm g m) (h : ¬ n = m) : decide (val g m < val f n) = decide (m < n) := by
  rcases Nat.lt_or_ge m n with h' | h'
  · have := longer hf nf hg h'
    simp [this, h']
  · have := longer hg ng hf (show n < m by omega)
    rw [decide_eq_false (by omega), decide_eq_false (by omega)]

set_option maxHeartbeats 600000 in
theorem cabove (a : Option Addr) (n cap : Nat) (a' : Option Addr) (m cap' : Nat) (f g : Nat → Int) (w : World) (hA : DgA w a n f) (hB : DgA w a' m g) (hn : n ≤ 10000000) (hm : m ≤ 10000000) (hf : valid f n) (hg : valid g m) (nf : norm f n) (ng : norm g m) :
    Calls Tryd.prog 38 #[.slice a n cap, .slice a' m cap'] w fun e w' => e = .returned (.bool (decide (val g m < val f n))) ∧ ∃ nq, w' = w.drewN nq := by
  by_cases h0 : n = m
  · subst h0
    have HA : Hid (DgA w a n f) := hA
    have HB : Hid (DgA w a' n g) := hB
    have HF : Hid (valid f n) := hf
    have HG : Hid (valid g n) := hg
    clear hA hB hf hg nf ng hm
    go_enter Tryd.func38, Tryd.ntmps38
    go_wp2
    go_loopw [5] (fun x X => ∃ k : Nat, x = .int .i64 ((k : Int) - 1) ∧ k ≤ n ∧ Hid (∀ i, k ≤ i → i < n → f i = g i) ∧ ∃ nq, X = w.drewN nq) (fun x _ => (intOf x + 1).toNat)
    case atStart => exact ⟨n, rfl, Nat.le_refl _, (fun i h1 h2 => absurd h2 (by omega) : ∀ i, n ≤ i → i < n → f i = g i), 0, rfl⟩
    case round =>
      obtain ⟨k, rfl, hk, HS, nq, rfl⟩ := hrel
      by_cases h0 : k = 0
      · subst h0
        have HE : Hid (decide (val g n < val f n) = false) := decide_eq_false (by
          have := same_top (show 0 ≤ n by omega) HS.out
          simp [val] at this; omega)
        go_wp2
        go_ret
        exact ⟨by rw [HE.out]; rfl, _, rfl⟩
      · obtain ⟨j, rfl⟩ : ∃ j, k = j + 1 := ⟨k - 1, by omega⟩
        rcases HA.out with h | ⟨b, off, rfl, _, h⟩
        · omega
        rcases HB.out with h' | ⟨b', off', rfl, _, h'⟩
        · omega
        have c1 := h j (by omega)
        have c2 := h' j (by omega)
        clear h h' h0
        have e1 : ((j + 1 : Nat) : Int) - 1 = (j : Int) := by omega
        rw [e1]
        clear e1
        have i1 : (0 : Int) ≤ (j : Int) := by omega
        have i2 : (j : Int) < (n : Int) := by omega
        by_cases hz : (f j != g j) = true
        · have HE : Hid (decide (val g n < val f n) = decide (g j < f j)) := by
            have hne : ¬ f j = g j := by simpa using hz
            have HS' : ∀ i, j + 1 ≤ i → i < n → f i = g i := HS.out
            rcases Int.lt_trichotomy (f j) (g j) with h | h | h
            · have := top_less HF.out HG.out (by omega) HS' h
              exact (decide_eq_false (by omega)).trans (decide_eq_false (by omega)).symm
            · exact absurd h hne
            · have := top_less HG.out HF.out (by omega) (fun i h1 h2 => (HS' i h1 h2).symm) h
              exact (decide_eq_true this).trans (decide_eq_true h).symm
          go_wp2
          go_quiet (fail)
          go_wp2
          go_quiet (fail)
          go_wp2
          go_ret
          exact ⟨by rw [HE.out]; rfl, _, drewN3 _ _ _ _⟩
        · have hz' : (f j != g j) = false := by simpa using hz
          have HS' : Hid (∀ i, j ≤ i → i < n → f i = g i) := fun i h1 h2 => by
            rcases Nat.lt_or_ge j i with h | h
            · exact HS.out i h h2
            · have : i = j := by omega
              subst this; simpa using hz
          clear hz HS
          go_wp2
          go_quiet (fail)
          go_wp2
          go_roundw
          case rel => exact ⟨j, rfl, by omega, HS', _, rfl⟩
          case measure => simp [intOf]
  · rw [above_ne hf hg nf ng h0]
    have hne : ((n : Int) != (m : Int)) = true := by simp; omega
    clear hA hB hf hg nf ng
    go_enter Tryd.func38, Tryd.ntmps38
    go_wp2
    go_ret
    exact ⟨rfl, 0, rfl⟩
end Go.Proofs.YtmkfkjicfmllmaaDoor
