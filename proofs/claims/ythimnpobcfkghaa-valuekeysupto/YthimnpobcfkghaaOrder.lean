/- The contract of value.Order: the order of two values, by kind, number and text of the clean values. -/
import Derived.Test.YthimnpobcfkghaaCmp
import Derived.Test.YthimnpobcfkghaaPut
import Derived.Deep.RegionHeld3
import Derived.Deep.DeepCutAuto
import Derived.Deep.RegionWith
import Derived.Deep.DrawnRows
namespace Go.Proofs.Ythimnpobcfkghaa
open Go.RowKit
attribute [local go_sem ↓] Go.wp_at_zero Go.wp_at_succ

def ordV (k n : Int) (s : ByteArray) (k' n' : Int) (s' : ByteArray) : Int := orI (cmpI (ck k) (ck k')) (cmpI (cn k n) (cn k' n')) (cmpS (cs k s) (cs k' s'))

set_option maxHeartbeats 1000000 in
theorem vorder (k n : Int) (s : ByteArray) (k' n' : Int) (s' : ByteArray) (w : World) : Calls Try.prog 22 #[(.agg #[.int .i64 (k), .int .i64 (n), .string (s)]), (.agg #[.int .i64 (k'), .int .i64 (n'), .string (s')])] w fun e w' => e = .returned (.int .i64 (ordV k n s k' n' s')) ∧ Below w.heap.size w w' := by
  go_enter Try.func22, Try.ntmps22
  go_upto_region 1 with fail
  go_cut [] (fun wx => wx.cell? ⟨w.heap.size, 0, none⟩ = some (.int .i64 (ck k)) ∧ wx.cell? ⟨w.heap.size, 1, none⟩ = some (.int .i64 (cn k n)) ∧ wx.cell? ⟨w.heap.size, 2, none⟩ = some (.string (cs k s)) ∧ wx.cell? ⟨w.heap.size + 1, 0, none⟩ = some (.int .i64 (ck k')) ∧ wx.cell? ⟨w.heap.size + 1, 1, none⟩ = some (.int .i64 (cn k' n')) ∧ wx.cell? ⟨w.heap.size + 1, 2, none⟩ = some (.string (cs k' s')) ∧ Below w.heap.size w wx ∧ w.heap.size + 1 < wx.heap.size)
  case first =>
    go_region_with (first | (go_at_call 45; refine (vclean _ _ _ _).mono ?_; rintro e w' ⟨rfl, hb⟩; obtain ⟨hc, hf⟩ := bcell hb; have hs0 : w.heap.size < w'.heap.size := (by have := hb.size; (try simp at this); omega); have hs1 : w.heap.size + 1 < w'.heap.size := (by have := hb.size; (try simp at this); omega)))
    all_goals
      go_wp2_with fail
      go_meet
      rename_i wa hba _ _ _ _
      have hw0 : Below w.heap.size w ((w.alloc (.cells #[.int .i64 k, .int .i64 n, .string s] 42)).alloc (.cells #[.int .i64 k', .int .i64 n', .string s'] 42)).drew := (((Below.refl _ _).alloc (Nat.le_refl _) _).alloc (by simp) _).drew
      have hp := twoPut (A := w.heap.size) (B := w.heap.size + 1) (a0 := .int .i64 k) (a1 := .int .i64 n) (a2 := .string s) (b0 := .int .i64 k') (b1 := .int .i64 n') (b2 := .string s') hw0 (hba.trans (hb.mono hba.size)) (Nat.le_refl _) (by omega) (by simp <;> omega) (by simp <;> omega) (by omega) (by go_simp) (by go_simp) (by go_simp) (by go_simp) (by go_simp) (by go_simp) (.int .i64 (ck k)) (.int .i64 (cn k n)) (.string (cs k s)) (.int .i64 (ck k')) (.int .i64 (cn k' n')) (.string (cs k' s'))
      unfold put3 at hp
      refine ⟨hp.1, hp.2.1, hp.2.2.1, hp.2.2.2.1, hp.2.2.2.2.1, hp.2.2.2.2.2.1, hp.2.2.2.2.2.2.1, by simpa using hs1⟩
  case rest =>
    obtain ⟨q0, q1, q2, q3, q4, q5, hbw, hsz⟩ := hcut
    go_wp2
    go_region_held3 (fun w' => w'.cell? ⟨w.heap.size, 0, none⟩ = some (.int .i64 (ck k)) ∧ w'.cell? ⟨w.heap.size, 1, none⟩ = some (.int .i64 (cn k n)) ∧ w'.cell? ⟨w.heap.size, 2, none⟩ = some (.string (cs k s)) ∧ w'.cell? ⟨w.heap.size + 1, 0, none⟩ = some (.int .i64 (ck k')) ∧ w'.cell? ⟨w.heap.size + 1, 1, none⟩ = some (.int .i64 (cn k' n')) ∧ w'.cell? ⟨w.heap.size + 1, 2, none⟩ = some (.string (cs k' s'))) (go_keep)
      (first | (go_at_call 48; refine (cmpInt _ _ _).mono ?_; rintro e w' ⟨rfl, rfl⟩) | (go_at_call 50; refine (cmpInt64 _ _ _).mono ?_; rintro e w' ⟨rfl, rfl⟩) | (go_at_call 51; refine (cmpStr _ _ _).mono ?_; rintro e w' ⟨rfl, rfl⟩) | (go_at_call 49; refine (cmpOr (cmpI (ck k) (ck k')) (cmpI (cn k n) (cn k' n')) (cmpS (cs k s) (cs k' s')) _ _ ?_ ?_ ?_).mono ?_; go_simp; go_simp; go_simp; rintro e w' ⟨rfl, rfl⟩))
    go_wp2
    go_ret
    exact ⟨rfl, (hbw.drew).alloc (by simp; omega) _⟩
end Go.Proofs.Ythimnpobcfkghaa
