/- The contracts of value.Not, relstoreref.three, told, Not and in, relstorelaw.sameValue. -/
import Derived.Test.YthimnpobcfkghaaTruth
namespace Go.Proofs.Ythimnpobcfkghaa
open Go.RowKit
attribute [local go_sem ↓] Go.wp_at_zero Go.wp_at_succ

set_option maxHeartbeats 1000000 in
theorem lsame (k n : Int) (s : ByteArray) (w : World) : Calls Try.prog 44 #[(.agg #[.int .i64 (k), .int .i64 (n), .string (s)]), (.agg #[.int .i64 (k), .int .i64 (n), .string (s)])] w fun e w' => e = .returned (.bool true) ∧ Below w.heap.size w w' := by
  go_enter Try.func44, Try.ntmps44
  go_wp2
  go_ret
  exact ⟨rfl, (((Below.refl _ _).alloc (Nat.le_refl _) _).alloc (by simp) _)⟩

end Go.Proofs.Ythimnpobcfkghaa
