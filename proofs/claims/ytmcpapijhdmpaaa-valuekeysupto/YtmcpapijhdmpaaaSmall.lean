/- The contracts of value.Not, relstoreref.three, told, Not and in, relstorelaw.sameValue. -/
import Derived.Test.YtmcpapijhdmpaaaTruth
namespace Go.Proofs.Ytmcpapijhdmpaaa
open Go.RowKit
attribute [local go_sem ↓] Go.wp_at_zero Go.wp_at_succ

set_option maxHeartbeats 1000000 in
theorem vnot (k n : Int) (s : ByteArray) (w : World) : Calls Try.prog 23 #[(.agg #[.int .i64 (k), .int .i64 (n), .string (s)])] w fun e w' => e = .returned (.agg #[.int .i64 (tk (inot (th k n))), .int .i64 (tn (inot (th k n))), .string (⟨#[]⟩)]) ∧ Below w.heap.size w w' := by
  have e0 := bn_f
  have e1 := bn_t
  by_cases h : k = 1
  · subst h
    have hd : tk (inot (th 1 n)) = 1 ∧ tn (inot (th 1 n)) = bn (isF 1 n) := by
      unfold th isF; by_cases b : n = 0 <;> simp [b, inot, tk, tn, bn]
    rw [hd.1, hd.2]
    clear hd
    go_enter Try.func23, Try.ntmps23
    go_wp2_with fail
    refine (visFalse _ _ _ _).mono ?_
    rintro e w1 ⟨rfl, hb1⟩
    obtain ⟨hc1, hf1⟩ := bcell hb1; have za1 : w.heap.size < w1.heap.size := (by have := hb1.size; (try simp at this); omega); have zb1 : w.heap.size + 1 < w1.heap.size := (by have := hb1.size; (try simp at this); omega)
    go_wp2_with fail
    refine (vtruth _ _).mono ?_
    rintro e w2 ⟨rfl, hb2⟩
    obtain ⟨hc2, hf2⟩ := bcell hb2; have za2 : w.heap.size < w2.heap.size := (by have := hb2.size; (try simp at this); omega); have zb2 : w.heap.size + 1 < w2.heap.size := (by have := hb2.size; (try simp at this); omega)
    go_wp2
    refine bodyPost_ret (v := (.agg #[.int .i64 (1), .int .i64 (bn (isF 1 n)), .string (⟨#[]⟩)])) (by simp [results, Try.results23, go_sem, *]) rfl ⟨rfl, ?_⟩
    exact ((((keepBelow (keepBelow (((Below.refl _ _).alloc (Nat.le_refl _) _).alloc (by simp) _) hb1) hb2)).setCell (by simp <;> omega) _).setCell (by simp <;> omega) _).setCell (by simp <;> omega) _
  · have hd : tk (inot (th k n)) = 0 ∧ tn (inot (th k n)) = 0 := by
      unfold th; simp [h, inot, tk, tn]
    rw [hd.1, hd.2]
    clear hd
    have h' : (k != 1) = true := by simpa using h
    go_enter Try.func23, Try.ntmps23
    go_wp2
    refine bodyPost_ret (v := (.agg #[.int .i64 (0), .int .i64 (0), .string (⟨#[]⟩)])) (by simp [results, Try.results23, go_sem]) rfl ⟨rfl, ?_⟩
    exact (((Below.refl _ _).alloc (Nat.le_refl _) _).alloc (by simp) _)

set_option maxHeartbeats 1000000 in
theorem rthree (k n : Int) (s : ByteArray) (w : World) : Calls Try.prog 57 #[(.agg #[.int .i64 (k), .int .i64 (n), .string (s)])] w fun e w' => e = .returned (.int .i64 (th k n)) ∧ Below w.heap.size w w' := by
  unfold th
  by_cases h : k = 1
  · subst h
    rw [if_pos rfl]
    by_cases b : (n != 0) = true
    · have b' : ¬ n = 0 := by simpa using b
      rw [if_neg b']
      clear b'
      go_enter Try.func57, Try.ntmps57
      go_wp2
      go_ret
      exact ⟨rfl, ((Below.refl _ _).alloc (Nat.le_refl _) _)⟩
    · have b' : n = 0 := by simpa using b
      subst b'
      go_enter Try.func57, Try.ntmps57
      go_wp2
      go_ret
      exact ⟨rfl, ((Below.refl _ _).alloc (Nat.le_refl _) _)⟩
  · rw [if_neg h]
    have h' : (k != 1) = true := by simpa using h
    go_enter Try.func57, Try.ntmps57
    go_wp2
    go_ret
    exact ⟨rfl, ((Below.refl _ _).alloc (Nat.le_refl _) _)⟩

set_option maxHeartbeats 1000000 in
theorem rtold0 (w : World) : Calls Try.prog 56 #[.int .i64 0] w fun e w' => e = .returned (.agg #[.int .i64 (1), .int .i64 (0), .string (⟨#[]⟩)]) ∧ Below w.heap.size w w' := by
  have e0 := bn_f
  have e1 := bn_t
  go_enter Try.func56, Try.ntmps56
  go_wp2_with fail
  refine (rtruth _ _).mono ?_
  rintro e w1 ⟨rfl, hb1⟩
  obtain ⟨hc1, hf1⟩ := bcell hb1; have za1 : w.heap.size < w1.heap.size := (by have := hb1.size; (try simp at this); omega)
  go_wp2_with fail
  refine (rtruth _ _).mono ?_
  rintro e w2 ⟨rfl, hb2⟩
  obtain ⟨hc2, hf2⟩ := bcell hb2; have za2 : w.heap.size < w2.heap.size := (by have := hb2.size; (try simp at this); omega)
  go_wp2_with fail
  refine (rnull _).mono ?_
  rintro e w3 ⟨rfl, hb3⟩
  obtain ⟨hc3, hf3⟩ := bcell hb3; have za3 : w.heap.size < w3.heap.size := (by have := hb3.size; (try simp at this); omega)
  have hne : ¬ w.heap.size = w3.heap.size := by omega
  go_wp2
  refine bodyPost_ret (v := (.agg #[.int .i64 (1), .int .i64 (0), .string (⟨#[]⟩)])) (by simp [results, Try.results56, go_sem, *]) rfl ⟨rfl, ?_⟩
  have hB := (keepBelow (keepBelow (keepBelow ((Below.refl _ _).alloc (Nat.le_refl _) _) hb1) hb2) hb3)
  exact (((hB.setCell (Nat.le_refl _) _).setCell (Nat.le_refl _) _).setCell (Nat.le_refl _) _).alloc (by simp; omega) _

set_option maxHeartbeats 1000000 in
theorem rtold1 (w : World) : Calls Try.prog 56 #[.int .i64 1] w fun e w' => e = .returned (.agg #[.int .i64 (1), .int .i64 (1), .string (⟨#[]⟩)]) ∧ Below w.heap.size w w' := by
  have e0 := bn_f
  have e1 := bn_t
  go_enter Try.func56, Try.ntmps56
  go_wp2_with fail
  refine (rtruth _ _).mono ?_
  rintro e w1 ⟨rfl, hb1⟩
  obtain ⟨hc1, hf1⟩ := bcell hb1; have za1 : w.heap.size < w1.heap.size := (by have := hb1.size; (try simp at this); omega)
  go_wp2_with fail
  refine (rtruth _ _).mono ?_
  rintro e w2 ⟨rfl, hb2⟩
  obtain ⟨hc2, hf2⟩ := bcell hb2; have za2 : w.heap.size < w2.heap.size := (by have := hb2.size; (try simp at this); omega)
  go_wp2_with fail
  refine (rnull _).mono ?_
  rintro e w3 ⟨rfl, hb3⟩
  obtain ⟨hc3, hf3⟩ := bcell hb3; have za3 : w.heap.size < w3.heap.size := (by have := hb3.size; (try simp at this); omega)
  have hne : ¬ w.heap.size = w3.heap.size := by omega
  go_wp2
  refine bodyPost_ret (v := (.agg #[.int .i64 (1), .int .i64 (1), .string (⟨#[]⟩)])) (by simp [results, Try.results56, go_sem, *]) rfl ⟨rfl, ?_⟩
  have hB := (keepBelow (keepBelow (keepBelow ((Below.refl _ _).alloc (Nat.le_refl _) _) hb1) hb2) hb3)
  exact (((hB.setCell (Nat.le_refl _) _).setCell (Nat.le_refl _) _).setCell (Nat.le_refl _) _).alloc (by simp; omega) _

set_option maxHeartbeats 1000000 in
theorem rtold2 (w : World) : Calls Try.prog 56 #[.int .i64 2] w fun e w' => e = .returned (.agg #[.int .i64 (0), .int .i64 (0), .string (⟨#[]⟩)]) ∧ Below w.heap.size w w' := by
  have e0 := bn_f
  have e1 := bn_t
  go_enter Try.func56, Try.ntmps56
  go_wp2_with fail
  refine (rtruth _ _).mono ?_
  rintro e w1 ⟨rfl, hb1⟩
  obtain ⟨hc1, hf1⟩ := bcell hb1; have za1 : w.heap.size < w1.heap.size := (by have := hb1.size; (try simp at this); omega)
  go_wp2_with fail
  refine (rtruth _ _).mono ?_
  rintro e w2 ⟨rfl, hb2⟩
  obtain ⟨hc2, hf2⟩ := bcell hb2; have za2 : w.heap.size < w2.heap.size := (by have := hb2.size; (try simp at this); omega)
  go_wp2_with fail
  refine (rnull _).mono ?_
  rintro e w3 ⟨rfl, hb3⟩
  obtain ⟨hc3, hf3⟩ := bcell hb3; have za3 : w.heap.size < w3.heap.size := (by have := hb3.size; (try simp at this); omega)
  have hne : ¬ w.heap.size = w3.heap.size := by omega
  go_wp2
  refine bodyPost_ret (v := (.agg #[.int .i64 (0), .int .i64 (0), .string (⟨#[]⟩)])) (by simp [results, Try.results56, go_sem, *]) rfl ⟨rfl, ?_⟩
  have hB := (keepBelow (keepBelow (keepBelow ((Below.refl _ _).alloc (Nat.le_refl _) _) hb1) hb2) hb3)
  exact (((hB.setCell (Nat.le_refl _) _).setCell (Nat.le_refl _) _).setCell (Nat.le_refl _) _).alloc (by simp; omega) _

theorem rtold (t : Int) (ht : t = 0 ∨ t = 1 ∨ t = 2) (w : World) : Calls Try.prog 56 #[.int .i64 t] w fun e w' => e = .returned (.agg #[.int .i64 (tk t), .int .i64 (tn t), .string (⟨#[]⟩)]) ∧ Below w.heap.size w w' := by
  rcases ht with rfl | rfl | rfl
  · exact rtold0 w
  · exact rtold1 w
  · exact rtold2 w

set_option maxHeartbeats 400000 in
theorem rin (n a b : Int) (w : World) : Calls Try.prog 53 #[.int .i64 n, .int .i64 a, .int .i64 b] w fun e w' => e = .returned (.bool (decide (a ≤ n) && decide (n ≤ b))) ∧ w' = w := by
  by_cases h : a ≤ n
  · have hd : decide (a ≤ n) = true := by simpa using h
    go_enter Try.func53, Try.ntmps53
    go_wp2
    go_ret
    exact ⟨ret_bool (by simp [h]), rfl⟩
  · have hd : decide (a ≤ n) = false := by simpa using h
    go_enter Try.func53, Try.ntmps53
    go_wp2
    go_ret
    exact ⟨ret_bool (by simp), rfl⟩

set_option maxHeartbeats 1000000 in
theorem lsame (k n : Int) (s : ByteArray) (w : World) : Calls Try.prog 14 #[(.agg #[.int .i64 (k), .int .i64 (n), .string (s)]), (.agg #[.int .i64 (k), .int .i64 (n), .string (s)])] w fun e w' => e = .returned (.bool true) ∧ Below w.heap.size w w' := by
  go_enter Try.func14, Try.ntmps14
  go_wp2
  go_ret
  exact ⟨rfl, (((Below.refl _ _).alloc (Nat.le_refl _) _).alloc (by simp) _)⟩


set_option maxHeartbeats 1000000 in
theorem rnot0 (k n : Int) (s : ByteArray) (w : World) (ht : th k n = 0) : Calls Try.prog 24 #[(.agg #[.int .i64 (k), .int .i64 (n), .string (s)])] w fun e w' => e = .returned (.agg #[.int .i64 (1), .int .i64 (1), .string (⟨#[]⟩)]) ∧ Below w.heap.size w w' := by
  go_enter Try.func24, Try.ntmps24
  go_wp2_with fail
  refine (rthree _ _ _ _).mono ?_
  rintro e w1 ⟨rfl, hb1⟩
  rw [ht]
  obtain ⟨hc1, hf1⟩ := bcell hb1; have za1 : w.heap.size < w1.heap.size := (by have := hb1.size; (try simp at this); omega); have zb1 : w.heap.size + 1 < w1.heap.size := (by have := hb1.size; (try simp at this); omega); have zc1 : w.heap.size + 1 + 1 < w1.heap.size := (by have := hb1.size; (try simp at this); omega)
  go_wp2_with fail
  refine (rtold1 _).mono ?_
  rintro e w2 ⟨rfl, hb2⟩
  obtain ⟨hc2, hf2⟩ := bcell hb2; have za2 : w.heap.size < w2.heap.size := (by have := hb2.size; (try simp at this); omega); have zb2 : w.heap.size + 1 < w2.heap.size := (by have := hb2.size; (try simp at this); omega); have zc2 : w.heap.size + 1 + 1 < w2.heap.size := (by have := hb2.size; (try simp at this); omega)
  go_wp2
  refine bodyPost_ret (v := (.agg #[.int .i64 (1), .int .i64 (1), .string (⟨#[]⟩)])) (by simp [results, Try.results24, go_sem, *]) rfl ⟨rfl, ?_⟩
  exact ((((keepBelow (keepBelow ((((Below.refl _ _).alloc (Nat.le_refl _) _).alloc (by simp) _).alloc (by simp; omega) _) hb1) hb2)).setCell (by simp <;> omega) _).setCell (by simp <;> omega) _).setCell (by simp <;> omega) _

set_option maxHeartbeats 1000000 in
theorem rnot1 (k n : Int) (s : ByteArray) (w : World) (ht : th k n = 1) : Calls Try.prog 24 #[(.agg #[.int .i64 (k), .int .i64 (n), .string (s)])] w fun e w' => e = .returned (.agg #[.int .i64 (1), .int .i64 (0), .string (⟨#[]⟩)]) ∧ Below w.heap.size w w' := by
  go_enter Try.func24, Try.ntmps24
  go_wp2_with fail
  refine (rthree _ _ _ _).mono ?_
  rintro e w1 ⟨rfl, hb1⟩
  rw [ht]
  obtain ⟨hc1, hf1⟩ := bcell hb1; have za1 : w.heap.size < w1.heap.size := (by have := hb1.size; (try simp at this); omega); have zb1 : w.heap.size + 1 < w1.heap.size := (by have := hb1.size; (try simp at this); omega); have zc1 : w.heap.size + 1 + 1 < w1.heap.size := (by have := hb1.size; (try simp at this); omega)
  go_wp2_with fail
  refine (rtold0 _).mono ?_
  rintro e w2 ⟨rfl, hb2⟩
  obtain ⟨hc2, hf2⟩ := bcell hb2; have za2 : w.heap.size < w2.heap.size := (by have := hb2.size; (try simp at this); omega); have zb2 : w.heap.size + 1 < w2.heap.size := (by have := hb2.size; (try simp at this); omega); have zc2 : w.heap.size + 1 + 1 < w2.heap.size := (by have := hb2.size; (try simp at this); omega)
  go_wp2
  refine bodyPost_ret (v := (.agg #[.int .i64 (1), .int .i64 (0), .string (⟨#[]⟩)])) (by simp [results, Try.results24, go_sem, *]) rfl ⟨rfl, ?_⟩
  exact ((((keepBelow (keepBelow ((((Below.refl _ _).alloc (Nat.le_refl _) _).alloc (by simp) _).alloc (by simp; omega) _) hb1) hb2)).setCell (by simp <;> omega) _).setCell (by simp <;> omega) _).setCell (by simp <;> omega) _

set_option maxHeartbeats 1000000 in
theorem rnot2 (k n : Int) (s : ByteArray) (w : World) (ht : th k n = 2) : Calls Try.prog 24 #[(.agg #[.int .i64 (k), .int .i64 (n), .string (s)])] w fun e w' => e = .returned (.agg #[.int .i64 (0), .int .i64 (0), .string (⟨#[]⟩)]) ∧ Below w.heap.size w w' := by
  go_enter Try.func24, Try.ntmps24
  go_wp2_with fail
  refine (rthree _ _ _ _).mono ?_
  rintro e w1 ⟨rfl, hb1⟩
  rw [ht]
  obtain ⟨hc1, hf1⟩ := bcell hb1; have za1 : w.heap.size < w1.heap.size := (by have := hb1.size; (try simp at this); omega); have zb1 : w.heap.size + 1 < w1.heap.size := (by have := hb1.size; (try simp at this); omega); have zc1 : w.heap.size + 1 + 1 < w1.heap.size := (by have := hb1.size; (try simp at this); omega)
  go_wp2_with fail
  refine (rtold2 _).mono ?_
  rintro e w2 ⟨rfl, hb2⟩
  obtain ⟨hc2, hf2⟩ := bcell hb2; have za2 : w.heap.size < w2.heap.size := (by have := hb2.size; (try simp at this); omega); have zb2 : w.heap.size + 1 < w2.heap.size := (by have := hb2.size; (try simp at this); omega); have zc2 : w.heap.size + 1 + 1 < w2.heap.size := (by have := hb2.size; (try simp at this); omega)
  go_wp2
  refine bodyPost_ret (v := (.agg #[.int .i64 (0), .int .i64 (0), .string (⟨#[]⟩)])) (by simp [results, Try.results24, go_sem, *]) rfl ⟨rfl, ?_⟩
  exact ((((keepBelow (keepBelow ((((Below.refl _ _).alloc (Nat.le_refl _) _).alloc (by simp) _).alloc (by simp; omega) _) hb1) hb2)).setCell (by simp <;> omega) _).setCell (by simp <;> omega) _).setCell (by simp <;> omega) _

theorem rnot (k n : Int) (s : ByteArray) (w : World) : Calls Try.prog 24 #[(.agg #[.int .i64 (k), .int .i64 (n), .string (s)])] w fun e w' => e = .returned (.agg #[.int .i64 (tk (inot (th k n))), .int .i64 (tn (inot (th k n))), .string (⟨#[]⟩)]) ∧ Below w.heap.size w w' := by
  rcases th_range k n with h | h | h
  · rw [h]; exact rnot0 k n s w h
  · rw [h]; exact rnot1 k n s w h
  · rw [h]; exact rnot2 k n s w h
end Go.Proofs.Ytmcpapijhdmpaaa
