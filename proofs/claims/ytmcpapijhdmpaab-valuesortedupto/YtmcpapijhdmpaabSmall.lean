/- The contracts of value.Not, relstoreref.three, told, Not and in, relstorelaw.sameValue. -/
import Derived.Test.YtmcpapijhdmpaabTruth
namespace Go.Proofs.Ytmcpapijhdmpaab
open Go.RowKit
attribute [local go_sem ↓] Go.wp_at_zero Go.wp_at_succ

set_option maxHeartbeats 1000000 in
theorem vnot (k n : Int) (s : ByteArray) (w : World) : Calls Try.prog 18 #[(.agg #[.int .i64 (k), .int .i64 (n), .string (s)])] w fun e w' => e = .returned (.agg #[.int .i64 (tk (inot (th k n))), .int .i64 (tn (inot (th k n))), .string (⟨#[]⟩)]) ∧ Below w.heap.size w w' := by
  have e0 := bn_f
  have e1 := bn_t
  by_cases h : k = 1
  · subst h
    have hd : tk (inot (th 1 n)) = 1 ∧ tn (inot (th 1 n)) = bn (isF 1 n) := by
      unfold th isF; by_cases b : n = 0 <;> simp [b, inot, tk, tn, bn]
    rw [hd.1, hd.2]
    clear hd
    go_enter Try.func18, Try.ntmps18
    go_wp2_with fail
    refine (visFalse _ _ _ _).mono ?_
    rintro e w1 ⟨rfl, hb1⟩
    obtain ⟨hc1, hf1⟩ := bcell hb1; have za1 : w.heap.size < w1.heap.size := (by have := hb1.size; (try simp at this); omega); have zb1 : w.heap.size + 1 < w1.heap.size := (by have := hb1.size; (try simp at this); omega)
    go_wp2_with fail
    refine (vtruth _ _).mono ?_
    rintro e w2 ⟨rfl, hb2⟩
    obtain ⟨hc2, hf2⟩ := bcell hb2; have za2 : w.heap.size < w2.heap.size := (by have := hb2.size; (try simp at this); omega); have zb2 : w.heap.size + 1 < w2.heap.size := (by have := hb2.size; (try simp at this); omega)
    go_wp2
    refine bodyPost_ret (v := (.agg #[.int .i64 (1), .int .i64 (bn (isF 1 n)), .string (⟨#[]⟩)])) (by simp [results, Try.results18, go_sem, *]) rfl ⟨rfl, ?_⟩
    exact ((((keepBelow (keepBelow (((Below.refl _ _).alloc (Nat.le_refl _) _).alloc (by simp) _) hb1) hb2)).setCell (by simp <;> omega) _).setCell (by simp <;> omega) _).setCell (by simp <;> omega) _
  · have hd : tk (inot (th k n)) = 0 ∧ tn (inot (th k n)) = 0 := by
      unfold th; simp [h, inot, tk, tn]
    rw [hd.1, hd.2]
    clear hd
    have h' : (k != 1) = true := by simpa using h
    go_enter Try.func18, Try.ntmps18
    go_wp2
    refine bodyPost_ret (v := (.agg #[.int .i64 (0), .int .i64 (0), .string (⟨#[]⟩)])) (by simp [results, Try.results18, go_sem]) rfl ⟨rfl, ?_⟩
    exact (((Below.refl _ _).alloc (Nat.le_refl _) _).alloc (by simp) _)



end Go.Proofs.Ytmcpapijhdmpaab
