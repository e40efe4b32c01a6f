/- relstoreref's disk: fits -/
import Derived.Test.YtfjkockcgddgbaaDskT
namespace Go.Proofs.Ytfjkockcgddgbaa
open Go.RowKit Go.Lib
attribute [local go_sem ↓] Go.wp_at_zero Go.wp_at_succ
set_option maxRecDepth 20000 in
set_option maxHeartbeats 1000000 in
theorem rfits (f at' n : Int) (w : World) : Calls Try.prog 53 #[.int .i64 f, .int .i64 at', .int .i64 n] w fun e w' => e = .returned (.bool (fitsD f at' n)) ∧ w' = w := by
  by_cases h1 : 0 ≤ f ∧ f ≤ 1
  · have b1 : (decide (0 ≤ f) && decide (f ≤ 1)) = true := by simp; exact h1
    by_cases h2 : 0 ≤ at' ∧ at' ≤ 67108864
    · have b2 : (decide (0 ≤ at') && decide (at' ≤ 67108864)) = true := by simp; exact h2
      have e9 : fitsD f at' n = (decide (0 ≤ n) && decide (n ≤ 67108864 - at')) := by
        unfold fitsD
        rw [← Bool.decide_and]
        apply decide_eq_decide.2
        omega
      rw [e9]
      generalize hq : (decide (0 ≤ n) && decide (n ≤ 67108864 - at')) = q
      have HQ : Hid _ := hq
      clear e9 hq
      go_enter Try.func53, Try.ntmps53
      go_wp2_with fail
      refine (rin f 0 1 _).mono ?_
      rintro e w' ⟨rfl, rfl⟩
      rw [b1]
      go_wp2_with fail
      refine (rin at' 0 67108864 _).mono ?_
      rintro e w' ⟨rfl, rfl⟩
      rw [b2]
      go_wp2_with fail
      refine (rin n 0 (67108864 - at') _).mono ?_
      rintro e w' ⟨rfl, rfl⟩
      rw [HQ.out]
      go_wp2_with fail
      go_ret
      exact ⟨rfl, rfl⟩
    · have b2 : (decide (0 ≤ at') && decide (at' ≤ 67108864)) = false := by
        rw [← Bool.decide_and]; exact decide_eq_false h2
      have e9 : fitsD f at' n = false := by unfold fitsD; exact decide_eq_false (by omega)
      rw [e9]
      clear e9
      go_enter Try.func53, Try.ntmps53
      go_wp2_with fail
      refine (rin f 0 1 _).mono ?_
      rintro e w' ⟨rfl, rfl⟩
      rw [b1]
      go_wp2_with fail
      refine (rin at' 0 67108864 _).mono ?_
      rintro e w' ⟨rfl, rfl⟩
      rw [b2]
      go_wp2_with fail
      go_ret
      exact ⟨rfl, rfl⟩
  · have b1 : (decide (0 ≤ f) && decide (f ≤ 1)) = false := by
      rw [← Bool.decide_and]; exact decide_eq_false h1
    have e9 : fitsD f at' n = false := by unfold fitsD; exact decide_eq_false (by omega)
    rw [e9]
    clear e9
    go_enter Try.func53, Try.ntmps53
    go_wp2_with fail
    refine (rin f 0 1 _).mono ?_
    rintro e w' ⟨rfl, rfl⟩
    rw [b1]
    go_wp2_with fail
    go_ret
    exact ⟨rfl, rfl⟩
end Go.Proofs.Ytfjkockcgddgbaa
