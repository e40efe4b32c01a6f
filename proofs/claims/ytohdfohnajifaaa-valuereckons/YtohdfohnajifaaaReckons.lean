/- The contract of relstorelaw.ValueReckons: it answers true for any op and any two values. -/
import Derived.Test.YtohdfohnajifaaaLong10
import Derived.Test.YtohdfohnajifaaaTruth
import Derived.Test.YtohdfohnajifaaaSmall
namespace Go.Proofs.Ytohdfohnajifaaa
open Go.RowKit
attribute [local go_sem ↓] Go.wp_at_zero Go.wp_at_succ

set_option maxRecDepth 100000 in
set_option maxHeartbeats 4000000 in
theorem lreckons (op k n : Int) (s : ByteArray) (k' n' : Int) (s' : ByteArray) (w : World) (hn : fits n = true) (hn' : fits n' = true) :
    Calls Try.prog 5 #[.int .i64 op, (.agg #[.int .i64 (k), .int .i64 (n), .string (s)]), (.agg #[.int .i64 (k'), .int .i64 (n'), .string (s')])] w fun e w' => e = .returned (.bool true) ∧ Below w.heap.size w w' := by
  have HX : Hid (fits n = true) := hn
  have HY : Hid (fits n' = true) := hn'
  clear hn hn'
  go_enter Try.func5, Try.ntmps5
  go_upto_region 1 with fail
  go_region_held3 (fun w' => Below w.heap.size w w' ∧ w.heap.size + 1 < w'.heap.size ∧ w'.cell? ⟨w.heap.size, 0, none⟩ = some (.int .i64 (k)) ∧ w'.cell? ⟨w.heap.size, 1, none⟩ = some (.int .i64 (n)) ∧ w'.cell? ⟨w.heap.size, 2, none⟩ = some (.string (s)) ∧ w'.cell? ⟨w.heap.size + 1, 0, none⟩ = some (.int .i64 (k')) ∧ w'.cell? ⟨w.heap.size + 1, 1, none⟩ = some (.int .i64 (n')) ∧ w'.cell? ⟨w.heap.size + 1, 2, none⟩ = some (.string (s'))) (first | (refine ⟨(((Below.refl _ _).alloc (Nat.le_refl _) _).alloc (by simp) _).drew, ?_⟩; go_keep) | (go_split_ands; and_intros <;> assumption) | (go_split_ands; exact ⟨keepBelow (by assumption) hb, keepSize hb (by assumption), keepCell hb (Nat.lt_of_succ_lt (by assumption)) (by assumption), keepCell hb (Nat.lt_of_succ_lt (by assumption)) (by assumption), keepCell hb (Nat.lt_of_succ_lt (by assumption)) (by assumption), keepCell hb (by assumption) (by assumption), keepCell hb (by assumption) (by assumption), keepCell hb (by assumption) (by assumption)⟩))
    (first
      | (go_at_call 25; refine (vreckon _ _ _ _ _ _ _ _ HX.out HY.out).mono ?_; rintro e w' ⟨rfl, hb⟩)
      | (go_at_call 26; refine (rreckon _ _ _ _ _ _ _ _ HX.out HY.out).mono ?_; rintro e w' ⟨rfl, hb⟩)
      | (go_at_call 27; refine (vneg _ _ _ _ HX.out).mono ?_; rintro e w' ⟨rfl, hb⟩)
      | (go_at_call 28; refine (rneg _ _ _ _ HX.out).mono ?_; rintro e w' ⟨rfl, hb⟩)
      | (go_at_call 14; refine (lsame _ _ _ _).mono ?_; rintro e w' ⟨rfl, hb⟩))
  go_wp2
  go_ret
  go_split_ands
  exact ⟨rfl, by assumption⟩
end Go.Proofs.Ytohdfohnajifaaa
