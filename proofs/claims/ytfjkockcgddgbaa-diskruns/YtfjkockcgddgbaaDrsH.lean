/- relstorelaw.sameInts; disks: Crash -/
import Derived.Test.YtfjkockcgddgbaaDrsG
import Derived.Test.YtfjkockcgddgbaaDskY
namespace Go.Proofs.Ytfjkockcgddgbaa
open Go.RowKit Go.Lib
attribute [local go_sem ↓] Go.wp_at_zero Go.wp_at_succ
set_option maxRecDepth 20000 in
set_option maxHeartbeats 1000000 in
theorem lsame (b1 o1 c1 b2 o2 c2 n : Nat) (f : Nat → Int) (w : World) (hn : n ≤ 140737488355328) (h1 : ∀ j, j < n → w.cell? ⟨b1, o1 + j, none⟩ = some (.int .i64 (f j))) (h2 : ∀ j, j < n → w.cell? ⟨b2, o2 + j, none⟩ = some (.int .i64 (f j))) :
    Calls Try.prog 37 #[.slice (some ⟨b1, o1, none⟩) n c1, .slice (some ⟨b2, o2, none⟩) n c2] w fun e w' => e = .returned (.bool true) ∧ Below w.heap.size w w' := by
  have H1 : Hid _ := h1
  have H2 : Hid _ := h2
  clear h1 h2
  go_enter Try.func37, Try.ntmps37
  go_wp2_with fail
  go_loopw [13] (fun u w' => ∃ (i : Nat), u = .int .i64 i ∧ i ≤ n ∧ Hid (w'.heap = w.heap) ∧ Hid (Below w.heap.size w w')) (fun u _ => n - (intOf u).toNat)
  case atStart => exact ⟨0, rfl, Nat.zero_le _, (rfl : w.heap = w.heap), Below.refl _ _⟩
  case round =>
    obtain ⟨i, rfl, hin, HE, HB⟩ := hrel
    by_cases hlt : i < n
    · have ki : (0 : Int) ≤ (i : Int) := by omega
      have kn : (i : Int) < (n : Int) := by omega
      have d1 : wr.cell? ⟨b1, o1 + i, none⟩ = some (.int .i64 (f i)) := (World.cell?_of_block (by rw [HE.out])).trans (H1.out i hlt)
      have d2 : wr.cell? ⟨b2, o2 + i, none⟩ = some (.int .i64 (f i)) := (World.cell?_of_block (by rw [HE.out])).trans (H2.out i hlt)
      go_wp2_with fail
      first | (go_region_law (fail)) | (go_quiet (fail)) | skip
      all_goals
        go_wp2
        first | exact ⟨⟨i + 1, rfl, by omega, HE, HB.out.drew⟩, by simp [intOf]; omega⟩ | (go_roundw; (case rel => exact ⟨i + 1, by go_num, by omega, HE, HB.out.drew⟩); (case measure => simp [intOf]; omega))
    · obtain rfl : i = n := by omega
      go_wp2_with fail
      go_ret
      exact ⟨rfl, HB.out⟩
end Go.Proofs.Ytfjkockcgddgbaa
