/- Like of both packages, for any two values -/
import Derived.Test.YtmkfkjicfmllmaaDoorLikR
namespace Go.Proofs.YtmkfkjicfmllmaaDoor
open Go.RowKit
attribute [local go_sem ↓] Go.wp_at_zero Go.wp_at_succ
def likeV (b : Bool) (k k' : Int) : Value := if k = 3 ∧ k' = 3 then (.agg #[.int .i64 (1), .int .i64 (bn b), .string (⟨#[]⟩)]) else (.agg #[.int .i64 (0), .int .i64 (0), .string (⟨#[]⟩)])
set_option maxRecDepth 20000 in
set_option maxHeartbeats 1000000 in
theorem vlikeV (b : Bool) (k n : Int) (s : ByteArray) (k' n' : Int) (p : ByteArray) (w : World) (hb : b = true ↔ M (L p) (L s)) (hs : s.size ≤ 1048576) (hp : p.size ≤ 1048576) :
    Calls Tryd.prog 7 #[(.agg #[.int .i64 (k), .int .i64 (n), .string (s)]), (.agg #[.int .i64 (k'), .int .i64 (n'), .string (p)])] w fun e w' => e = .returned (likeV b k k') ∧ Below w.heap.size w w' := by
  by_cases h1 : k = 3
  · by_cases h2 : k' = 3
    · have e : likeV b k k' = (.agg #[.int .i64 (1), .int .i64 (bn b), .string (⟨#[]⟩)]) := if_pos ⟨h1, h2⟩
      rw [e]
      clear e
      subst h1 h2
      have Hs : Hid (s.size ≤ 562949953421312) := (by omega : s.size ≤ 562949953421312)
      have Hp : Hid (p.size ≤ 562949953421312) := (by omega : p.size ≤ 562949953421312)
      have HB : Hid _ := hb
      clear hs hp hb
      go_enter Tryd.func7, Tryd.ntmps7
      go_wp2_with fail
      refine (vmatches _ _ _ Hs.out Hp.out).mono ?_
      rintro e w1 ⟨b2, rfl, hb, nq, rfl⟩
      obtain rfl : b2 = b := by
        have h := hb.trans HB.out.symm
        cases b2 <;> cases b <;> simp_all
      clear hb
      go_wp2_with fail
      refine (vtruth _ _).mono ?_
      rintro e w2 ⟨rfl, hb2⟩
      obtain ⟨hc2, hf2⟩ := bcell hb2; have za2 : w.heap.size < w2.heap.size := (by have := hb2.size; (try simp at this); omega); have zb2 : w.heap.size + 1 < w2.heap.size := (by have := hb2.size; (try simp at this); omega); have zc2 : w.heap.size + 1 + 1 < w2.heap.size := (by have := hb2.size; (try simp at this); omega)
      go_wp2
      refine bodyPost_ret (v := (.agg #[.int .i64 (1), .int .i64 (bn b2), .string (⟨#[]⟩)])) (by simp [results, Tryd.results7, go_sem, *]) rfl ⟨rfl, ?_⟩
      exact ((((keepBelow (below_drewN ((((Below.refl _ _).alloc (Nat.le_refl _) _).alloc (by simp) _).alloc (by simp; omega) _) _) hb2)).setCell (by simp <;> omega) _).setCell (by simp <;> omega) _).setCell (by simp <;> omega) _
    · have e : likeV b k k' = (.agg #[.int .i64 (0), .int .i64 (0), .string (⟨#[]⟩)]) := if_neg (fun h => h2 h.2)
      rw [e]
      clear e
      subst h1
      go_enter Tryd.func7, Tryd.ntmps7
      go_wp2
      refine bodyPost_ret (v := (.agg #[.int .i64 (0), .int .i64 (0), .string (⟨#[]⟩)])) (by simp [results, Tryd.results7, go_sem, *]) rfl ⟨rfl, ?_⟩
      first | exact ((((Below.refl _ _).alloc (Nat.le_refl _) _).alloc (by simp) _).alloc (by simp; omega) _) | exact (((((((Below.refl _ _).alloc (Nat.le_refl _) _).alloc (by simp) _).alloc (by simp; omega) _)).setCell (by simp <;> omega) _).setCell (by simp <;> omega) _).setCell (by simp <;> omega) _ | exact below_dw ((((Below.refl _ _).alloc (Nat.le_refl _) _).alloc (by simp) _).alloc (by simp; omega) _)
  · have e : likeV b k k' = (.agg #[.int .i64 (0), .int .i64 (0), .string (⟨#[]⟩)]) := if_neg (fun h => h1 h.1)
    rw [e]
    clear e
    go_enter Tryd.func7, Tryd.ntmps7
    go_wp2
    refine bodyPost_ret (v := (.agg #[.int .i64 (0), .int .i64 (0), .string (⟨#[]⟩)])) (by simp [results, Tryd.results7, go_sem, *]) rfl ⟨rfl, ?_⟩
    first | exact ((((Below.refl _ _).alloc (Nat.le_refl _) _).alloc (by simp) _).alloc (by simp; omega) _) | exact (((((((Below.refl _ _).alloc (Nat.le_refl _) _).alloc (by simp) _).alloc (by simp; omega) _)).setCell (by simp <;> omega) _).setCell (by simp <;> omega) _).setCell (by simp <;> omega) _ | exact below_dw ((((Below.refl _ _).alloc (Nat.le_refl _) _).alloc (by simp) _).alloc (by simp; omega) _)
set_option maxRecDepth 20000 in
set_option maxHeartbeats 1000000 in
theorem rlikeV (b : Bool) (k n : Int) (s : ByteArray) (k' n' : Int) (p : ByteArray) (w : World) (hb : b = true ↔ M (L p) (L s)) (hs : s.size ≤ 1048576) (hp : p.size ≤ 1048576) :
    Calls Tryd.prog 8 #[(.agg #[.int .i64 (k), .int .i64 (n), .string (s)]), (.agg #[.int .i64 (k'), .int .i64 (n'), .string (p)])] w fun e w' => e = .returned (likeV b k k') ∧ Below w.heap.size w w' := by
  by_cases h1 : k = 3
  · by_cases h2 : k' = 3
    · have e : likeV b k k' = (.agg #[.int .i64 (1), .int .i64 (bn b), .string (⟨#[]⟩)]) := if_pos ⟨h1, h2⟩
      rw [e]
      clear e
      subst h1 h2
      refine (rlike n n' s p w (by omega) (by omega)).mono ?_
      rintro e w1 ⟨b2, rfl, hb', hw⟩
      obtain rfl : b2 = b := by
        have h := hb'.trans hb.symm
        cases b2 <;> cases b <;> simp_all
      exact ⟨rfl, hw⟩
    · have e : likeV b k k' = (.agg #[.int .i64 (0), .int .i64 (0), .string (⟨#[]⟩)]) := if_neg (fun h => h2 h.2)
      rw [e]
      clear e hb
      subst h1
      go_enter Tryd.func8, Tryd.ntmps8
      go_wp2_with fail
      refine (rnull _).mono ?_
      rintro e w2 ⟨rfl, hb2⟩
      obtain ⟨hc2, hf2⟩ := bcell hb2; have za2 : w.heap.size < w2.heap.size := (by have := hb2.size; (try simp at this); omega); have zb2 : w.heap.size + 1 < w2.heap.size := (by have := hb2.size; (try simp at this); omega); have zc2 : w.heap.size + 1 + 1 < w2.heap.size := (by have := hb2.size; (try simp at this); omega)
      go_wp2
      refine bodyPost_ret (v := (.agg #[.int .i64 (0), .int .i64 (0), .string (⟨#[]⟩)])) (by simp [results, Tryd.results8, go_sem, *]) rfl ⟨rfl, ?_⟩
      exact ((((keepBelow ((((Below.refl _ _).alloc (Nat.le_refl _) _).alloc (by simp) _).alloc (by simp; omega) _) hb2)).setCell (by simp <;> omega) _).setCell (by simp <;> omega) _).setCell (by simp <;> omega) _
  · have e : likeV b k k' = (.agg #[.int .i64 (0), .int .i64 (0), .string (⟨#[]⟩)]) := if_neg (fun h => h1 h.1)
    rw [e]
    clear e hb
    go_enter Tryd.func8, Tryd.ntmps8
    go_wp2_with fail
    refine (rnull _).mono ?_
    rintro e w2 ⟨rfl, hb2⟩
    obtain ⟨hc2, hf2⟩ := bcell hb2; have za2 : w.heap.size < w2.heap.size := (by have := hb2.size; (try simp at this); omega); have zb2 : w.heap.size + 1 < w2.heap.size := (by have := hb2.size; (try simp at this); omega); have zc2 : w.heap.size + 1 + 1 < w2.heap.size := (by have := hb2.size; (try simp at this); omega)
    go_wp2
    refine bodyPost_ret (v := (.agg #[.int .i64 (0), .int .i64 (0), .string (⟨#[]⟩)])) (by simp [results, Tryd.results8, go_sem, *]) rfl ⟨rfl, ?_⟩
    exact ((((keepBelow ((((Below.refl _ _).alloc (Nat.le_refl _) _).alloc (by simp) _).alloc (by simp; omega) _) hb2)).setCell (by simp <;> omega) _).setCell (by simp <;> omega) _).setCell (by simp <;> omega) _
end Go.Proofs.YtmkfkjicfmllmaaDoor
