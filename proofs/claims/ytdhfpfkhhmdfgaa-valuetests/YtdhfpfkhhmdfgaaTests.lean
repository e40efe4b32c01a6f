/- The contract of relstorelaw.ValueTests: it answers true for any op and any two values. -/
import Derived.Test.YtdhfpfkhhmdfgaaRegC
import Derived.Test.YtdhfpfkhhmdfgaaTest
import Derived.Test.YtdhfpfkhhmdfgaaRTest
namespace Go.Proofs.Ytdhfpfkhhmdfgaa
open Go.RowKit
attribute [local go_sem ↓] Go.wp_at_zero Go.wp_at_succ

set_option maxRecDepth 100000 in
set_option maxHeartbeats 4000000 in
theorem ltests (op k n : Int) (s : ByteArray) (k' n' : Int) (s' : ByteArray) (w : World) :
    Calls Try.prog 4 #[.int .i64 op, (.agg #[.int .i64 (k), .int .i64 (n), .string (s)]), (.agg #[.int .i64 (k'), .int .i64 (n'), .string (s')])] w fun e w' => e = .returned (.bool true) ∧ Below w.heap.size w w' := by
  go_enter Try.func4, Try.ntmps4
  go_upto_region 1 with fail
  go_region_held3 (fun w' => Below w.heap.size w w' ∧ w.heap.size + 1 < w'.heap.size ∧ w'.cell? ⟨w.heap.size, 0, none⟩ = some (.int .i64 (k)) ∧ w'.cell? ⟨w.heap.size, 1, none⟩ = some (.int .i64 (n)) ∧ w'.cell? ⟨w.heap.size, 2, none⟩ = some (.string (s)) ∧ w'.cell? ⟨w.heap.size + 1, 0, none⟩ = some (.int .i64 (k')) ∧ w'.cell? ⟨w.heap.size + 1, 1, none⟩ = some (.int .i64 (n')) ∧ w'.cell? ⟨w.heap.size + 1, 2, none⟩ = some (.string (s'))) (first | (refine ⟨(((Below.refl _ _).alloc (Nat.le_refl _) _).alloc (by simp) _).drew, ?_⟩; go_keep) | (go_split_ands; and_intros <;> assumption) | (go_split_ands; exact ⟨keepBelow (by assumption) hb, keepSize hb (by assumption), keepCell hb (Nat.lt_of_succ_lt (by assumption)) (by assumption), keepCell hb (Nat.lt_of_succ_lt (by assumption)) (by assumption), keepCell hb (Nat.lt_of_succ_lt (by assumption)) (by assumption), keepCell hb (by assumption) (by assumption), keepCell hb (by assumption) (by assumption), keepCell hb (by assumption) (by assumption)⟩))
    (first
      | (go_at_call 17; refine (vtest _ _ _ _ _ _ _ _).mono ?_; rintro e w' ⟨rfl, hb⟩)
      | (go_at_call 18; refine (rtest _ _ _ _ _ _ _ _).mono ?_; rintro e w' ⟨rfl, hb⟩)
      | (go_at_call 19; refine (vboth _ _ _ _ _ _ _).mono ?_; rintro e w' ⟨rfl, hb⟩)
      | (go_at_call 20; refine (rboth _ _ _ _ _ _ _).mono ?_; rintro e w' ⟨rfl, hb⟩)
      | (go_at_call 21; refine (veither _ _ _ _ _ _ _).mono ?_; rintro e w' ⟨rfl, hb⟩)
      | (go_at_call 22; refine (reither _ _ _ _ _ _ _).mono ?_; rintro e w' ⟨rfl, hb⟩)
      | (go_at_call 23; refine (vnot _ _ _ _).mono ?_; rintro e w' ⟨rfl, hb⟩)
      | (go_at_call 24; refine (rnot _ _ _ _).mono ?_; rintro e w' ⟨rfl, hb⟩)
      | (go_at_call 14; refine (lsame _ _ _ _).mono ?_; rintro e w' ⟨rfl, hb⟩))
  go_wp2
  go_ret
  go_split_ands
  exact ⟨rfl, by assumption⟩
end Go.Proofs.Ytdhfpfkhhmdfgaa
