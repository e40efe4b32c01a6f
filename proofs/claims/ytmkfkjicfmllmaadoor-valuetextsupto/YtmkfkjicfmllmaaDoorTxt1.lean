/- Concat of both packages -/
import Derived.Test.YtmkfkjicfmllmaaDoorLikR
namespace Go.Proofs.YtmkfkjicfmllmaaDoor
open Go.RowKit
attribute [local go_sem ↓] Go.wp_at_zero Go.wp_at_succ
def conc (k : Int) (s : ByteArray) (k' : Int) (s' : ByteArray) : Value := if k = 3 ∧ k' = 3 ∧ s.size + s'.size ≤ 1000 then (.agg #[.int .i64 (3), .int .i64 (0), .string ((s ++ s'))]) else (.agg #[.int .i64 (0), .int .i64 (0), .string (⟨#[]⟩)])
set_option maxRecDepth 20000 in
set_option maxHeartbeats 1000000 in
theorem vconcat (k n : Int) (s : ByteArray) (k' n' : Int) (s' : ByteArray) (w : World) (hs : s.size ≤ 140737488355328) (hs' : s'.size ≤ 140737488355328) :
    Calls Tryd.prog 5 #[(.agg #[.int .i64 (k), .int .i64 (n), .string (s)]), (.agg #[.int .i64 (k'), .int .i64 (n'), .string (s')])] w fun e w' => e = .returned (conc k s k' s') ∧ Below w.heap.size w w' := by
  by_cases h1 : k = 3
  · by_cases h2 : k' = 3
    · by_cases h3 : s.size + s'.size ≤ 1000
      · have e : conc k s k' s' = (.agg #[.int .i64 (3), .int .i64 (0), .string ((s ++ s'))]) := if_pos ⟨h1, h2, h3⟩
        rw [e]
        clear e
        subst h1 h2
        have h4 : (s.size : Int) + (s'.size : Int) ≤ 1000 := by omega
        go_enter Tryd.func5, Tryd.ntmps5
        go_wp2_with fail
        refine (vtext _ _).mono ?_
        rintro e w2 ⟨rfl, hb2⟩
        obtain ⟨hc2, hf2⟩ := bcell hb2; have za2 : w.heap.size < w2.heap.size := (by have := hb2.size; (try simp at this); omega); have zb2 : w.heap.size + 1 < w2.heap.size := (by have := hb2.size; (try simp at this); omega); have zc2 : w.heap.size + 1 + 1 < w2.heap.size := (by have := hb2.size; (try simp at this); omega)
        go_wp2
        refine bodyPost_ret (v := (.agg #[.int .i64 (3), .int .i64 (0), .string ((s ++ s'))])) (by simp [results, Tryd.results5, go_sem, *]) rfl ⟨rfl, ?_⟩
        exact ((((keepBelow ((((Below.refl _ _).alloc (Nat.le_refl _) _).alloc (by simp) _).alloc (by simp; omega) _) hb2)).setCell (by simp <;> omega) _).setCell (by simp <;> omega) _).setCell (by simp <;> omega) _
      · have e : conc k s k' s' = (.agg #[.int .i64 (0), .int .i64 (0), .string (⟨#[]⟩)]) := if_neg (fun h => h3 h.2.2)
        rw [e]
        clear e
        subst h1 h2
        have h4 : ¬ (s.size : Int) + (s'.size : Int) ≤ 1000 := by omega
        go_enter Tryd.func5, Tryd.ntmps5
        go_wp2
        refine bodyPost_ret (v := (.agg #[.int .i64 (0), .int .i64 (0), .string (⟨#[]⟩)])) (by simp [results, Tryd.results5, go_sem, *]) rfl ⟨rfl, ?_⟩
        first | exact ((((Below.refl _ _).alloc (Nat.le_refl _) _).alloc (by simp) _).alloc (by simp; omega) _) | exact (((((((Below.refl _ _).alloc (Nat.le_refl _) _).alloc (by simp) _).alloc (by simp; omega) _)).setCell (by simp <;> omega) _).setCell (by simp <;> omega) _).setCell (by simp <;> omega) _ | exact below_dw ((((Below.refl _ _).alloc (Nat.le_refl _) _).alloc (by simp) _).alloc (by simp; omega) _)
    · have e : conc k s k' s' = (.agg #[.int .i64 (0), .int .i64 (0), .string (⟨#[]⟩)]) := if_neg (fun h => h2 h.2.1)
      rw [e]
      clear e
      subst h1
      go_enter Tryd.func5, Tryd.ntmps5
      go_wp2
      refine bodyPost_ret (v := (.agg #[.int .i64 (0), .int .i64 (0), .string (⟨#[]⟩)])) (by simp [results, Tryd.results5, go_sem, *]) rfl ⟨rfl, ?_⟩
      first | exact ((((Below.refl _ _).alloc (Nat.le_refl _) _).alloc (by simp) _).alloc (by simp; omega) _) | exact (((((((Below.refl _ _).alloc (Nat.le_refl _) _).alloc (by simp) _).alloc (by simp; omega) _)).setCell (by simp <;> omega) _).setCell (by simp <;> omega) _).setCell (by simp <;> omega) _ | exact below_dw ((((Below.refl _ _).alloc (Nat.le_refl _) _).alloc (by simp) _).alloc (by simp; omega) _)
  · have e : conc k s k' s' = (.agg #[.int .i64 (0), .int .i64 (0), .string (⟨#[]⟩)]) := if_neg (fun h => h1 h.1)
    rw [e]
    clear e
    go_enter Tryd.func5, Tryd.ntmps5
    go_wp2
    refine bodyPost_ret (v := (.agg #[.int .i64 (0), .int .i64 (0), .string (⟨#[]⟩)])) (by simp [results, Tryd.results5, go_sem, *]) rfl ⟨rfl, ?_⟩
    first | exact ((((Below.refl _ _).alloc (Nat.le_refl _) _).alloc (by simp) _).alloc (by simp; omega) _) | exact (((((((Below.refl _ _).alloc (Nat.le_refl _) _).alloc (by simp) _).alloc (by simp; omega) _)).setCell (by simp <;> omega) _).setCell (by simp <;> omega) _).setCell (by simp <;> omega) _ | exact below_dw ((((Below.refl _ _).alloc (Nat.le_refl _) _).alloc (by simp) _).alloc (by simp; omega) _)
set_option maxRecDepth 20000 in
set_option maxHeartbeats 1000000 in
theorem rconcat (k n : Int) (s : ByteArray) (k' n' : Int) (s' : ByteArray) (w : World) (hs : s.size ≤ 140737488355328) (hs' : s'.size ≤ 140737488355328) :
    Calls Tryd.prog 6 #[(.agg #[.int .i64 (k), .int .i64 (n), .string (s)]), (.agg #[.int .i64 (k'), .int .i64 (n'), .string (s')])] w fun e w' => e = .returned (conc k s k' s') ∧ Below w.heap.size w w' := by
  by_cases h1 : k = 3
  · by_cases h2 : k' = 3
    · by_cases h3 : s.size + s'.size ≤ 1000
      · have e : conc k s k' s' = (.agg #[.int .i64 (3), .int .i64 (0), .string ((s ++ s'))]) := if_pos ⟨h1, h2, h3⟩
        rw [e]
        clear e
        subst h1 h2
        have h4 : (s.size : Int) + (s'.size : Int) ≤ 1000 := by omega
        go_enter Tryd.func6, Tryd.ntmps6
        go_wp2_with fail
        refine (rstr _ _).mono ?_
        rintro e w2 ⟨rfl, hb2⟩
        obtain ⟨hc2, hf2⟩ := bcell hb2; have za2 : w.heap.size < w2.heap.size := (by have := hb2.size; (try simp at this); omega); have zb2 : w.heap.size + 1 < w2.heap.size := (by have := hb2.size; (try simp at this); omega); have zc2 : w.heap.size + 1 + 1 < w2.heap.size := (by have := hb2.size; (try simp at this); omega)
        go_wp2
        refine bodyPost_ret (v := (.agg #[.int .i64 (3), .int .i64 (0), .string ((s ++ s'))])) (by simp [results, Tryd.results6, go_sem, *]) rfl ⟨rfl, ?_⟩
        exact ((((keepBelow ((((Below.refl _ _).alloc (Nat.le_refl _) _).alloc (by simp) _).alloc (by simp; omega) _) hb2)).setCell (by simp <;> omega) _).setCell (by simp <;> omega) _).setCell (by simp <;> omega) _
      · have e : conc k s k' s' = (.agg #[.int .i64 (0), .int .i64 (0), .string (⟨#[]⟩)]) := if_neg (fun h => h3 h.2.2)
        rw [e]
        clear e
        subst h1 h2
        have h4 : ¬ (s.size : Int) + (s'.size : Int) ≤ 1000 := by omega
        go_enter Tryd.func6, Tryd.ntmps6
        go_wp2_with fail
        refine (rnull _).mono ?_
        rintro e w2 ⟨rfl, hb2⟩
        obtain ⟨hc2, hf2⟩ := bcell hb2; have za2 : w.heap.size < w2.heap.size := (by have := hb2.size; (try simp at this); omega); have zb2 : w.heap.size + 1 < w2.heap.size := (by have := hb2.size; (try simp at this); omega); have zc2 : w.heap.size + 1 + 1 < w2.heap.size := (by have := hb2.size; (try simp at this); omega)
        go_wp2
        refine bodyPost_ret (v := (.agg #[.int .i64 (0), .int .i64 (0), .string (⟨#[]⟩)])) (by simp [results, Tryd.results6, go_sem, *]) rfl ⟨rfl, ?_⟩
        exact ((((keepBelow ((((Below.refl _ _).alloc (Nat.le_refl _) _).alloc (by simp) _).alloc (by simp; omega) _) hb2)).setCell (by simp <;> omega) _).setCell (by simp <;> omega) _).setCell (by simp <;> omega) _
    · have e : conc k s k' s' = (.agg #[.int .i64 (0), .int .i64 (0), .string (⟨#[]⟩)]) := if_neg (fun h => h2 h.2.1)
      rw [e]
      clear e
      subst h1
      go_enter Tryd.func6, Tryd.ntmps6
      go_wp2_with fail
      refine (rnull _).mono ?_
      rintro e w2 ⟨rfl, hb2⟩
      obtain ⟨hc2, hf2⟩ := bcell hb2; have za2 : w.heap.size < w2.heap.size := (by have := hb2.size; (try simp at this); omega); have zb2 : w.heap.size + 1 < w2.heap.size := (by have := hb2.size; (try simp at this); omega); have zc2 : w.heap.size + 1 + 1 < w2.heap.size := (by have := hb2.size; (try simp at this); omega)
      go_wp2
      refine bodyPost_ret (v := (.agg #[.int .i64 (0), .int .i64 (0), .string (⟨#[]⟩)])) (by simp [results, Tryd.results6, go_sem, *]) rfl ⟨rfl, ?_⟩
      exact ((((keepBelow ((((Below.refl _ _).alloc (Nat.le_refl _) _).alloc (by simp) _).alloc (by simp; omega) _) hb2)).setCell (by simp <;> omega) _).setCell (by simp <;> omega) _).setCell (by simp <;> omega) _
  · have e : conc k s k' s' = (.agg #[.int .i64 (0), .int .i64 (0), .string (⟨#[]⟩)]) := if_neg (fun h => h1 h.1)
    rw [e]
    clear e
    go_enter Tryd.func6, Tryd.ntmps6
    go_wp2_with fail
    refine (rnull _).mono ?_
    rintro e w2 ⟨rfl, hb2⟩
    obtain ⟨hc2, hf2⟩ := bcell hb2; have za2 : w.heap.size < w2.heap.size := (by have := hb2.size; (try simp at this); omega); have zb2 : w.heap.size + 1 < w2.heap.size := (by have := hb2.size; (try simp at this); omega); have zc2 : w.heap.size + 1 + 1 < w2.heap.size := (by have := hb2.size; (try simp at this); omega)
    go_wp2
    refine bodyPost_ret (v := (.agg #[.int .i64 (0), .int .i64 (0), .string (⟨#[]⟩)])) (by simp [results, Tryd.results6, go_sem, *]) rfl ⟨rfl, ?_⟩
    exact ((((keepBelow ((((Below.refl _ _).alloc (Nat.le_refl _) _).alloc (by simp) _).alloc (by simp; omega) _) hb2)).setCell (by simp <;> omega) _).setCell (by simp <;> omega) _).setCell (by simp <;> omega) _
end Go.Proofs.YtmkfkjicfmllmaaDoor
