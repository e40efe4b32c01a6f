/- The contracts of relstoreref's value, divided and Neg, and of value.Neg. -/
import Derived.Test.YtohdfohnajifaaaLong7
import Derived.Test.YtohdfohnajifaaaReck
namespace Go.Proofs.Ytohdfohnajifaaa
open Go.RowKit
attribute [local go_sem ↓] Go.wp_at_zero Go.wp_at_succ

set_option maxRecDepth 20000 in
set_option maxHeartbeats 1000000 in
theorem cvalue (p : Bool) (v : Value) (x : Int) (w : World) (h : DgS 30 w v x) :
    Calls Try.prog 65 #[.agg #[.bool p, v]] w fun e w' => e = .returned (.agg #[.int .i64 (rK (fits (sg p x))), .int .i64 (rN (fits (sg p x)) (sg p x)), .string (⟨#[]⟩)]) ∧ Below w.heap.size w w' := by
  obtain ⟨a, k, cap, f, rfl, -⟩ := id h
  have HX : Hid (∀ W, Below w.heap.size w W → DgS 30 W (.slice a k cap) x) := fun W hb => h.below hb
  clear h
  cases hf : fits (sg p x) with
  | true =>
    have HF : Hid (fits (sg p x) = true) := hf
    clear hf
    go_enter Try.func65, Try.ntmps65
    go_wp2_with fail
    refine (csmall p (.slice a k cap) x _ (HX.out _ (((Below.refl _ _).alloc (Nat.le_refl _) _).alloc (by simp) _))).mono ?_
    rintro e w1 ⟨rfl, hb1⟩
    rw [HF.out]
    obtain ⟨hc1, hf1⟩ := bcell hb1; have za1 : w.heap.size < w1.heap.size := (by have := hb1.size; (try simp at this); omega); have zb1 : w.heap.size + 1 < w1.heap.size := (by have := hb1.size; (try simp at this); omega)
    go_wp2_with fail
    refine (rnum _ _).mono ?_
    rintro e w2 ⟨rfl, hb2⟩
    obtain ⟨hc2, hf2⟩ := bcell hb2; have za2 : w.heap.size < w2.heap.size := (by have := hb2.size; (try simp at this); omega); have zb2 : w.heap.size + 1 < w2.heap.size := (by have := hb2.size; (try simp at this); omega)
    go_wp2
    refine bodyPost_ret (v := (.agg #[.int .i64 (2), .int .i64 (sg p x), .string (⟨#[]⟩)])) (by simp [results, Try.results65, go_sem, *]) rfl ⟨rfl, ?_⟩
    exact ((((keepBelow (keepBelow (((Below.refl _ _).alloc (Nat.le_refl _) _).alloc (by simp) _) hb1) hb2)).setCell (by simp <;> omega) _).setCell (by simp <;> omega) _).setCell (by simp <;> omega) _
  | false =>
    have HF : Hid (fits (sg p x) = false) := hf
    clear hf
    go_enter Try.func65, Try.ntmps65
    go_wp2_with fail
    refine (csmall p (.slice a k cap) x _ (HX.out _ (((Below.refl _ _).alloc (Nat.le_refl _) _).alloc (by simp) _))).mono ?_
    rintro e w1 ⟨rfl, hb1⟩
    rw [HF.out]
    obtain ⟨hc1, hf1⟩ := bcell hb1; have za1 : w.heap.size < w1.heap.size := (by have := hb1.size; (try simp at this); omega); have zb1 : w.heap.size + 1 < w1.heap.size := (by have := hb1.size; (try simp at this); omega)
    go_wp2_with fail
    refine (rnull _).mono ?_
    rintro e w2 ⟨rfl, hb2⟩
    obtain ⟨hc2, hf2⟩ := bcell hb2; have za2 : w.heap.size < w2.heap.size := (by have := hb2.size; (try simp at this); omega); have zb2 : w.heap.size + 1 < w2.heap.size := (by have := hb2.size; (try simp at this); omega)
    go_wp2
    refine bodyPost_ret (v := (.agg #[.int .i64 (0), .int .i64 (0), .string (⟨#[]⟩)])) (by simp [results, Try.results65, go_sem, *]) rfl ⟨rfl, ?_⟩
    exact ((((keepBelow (keepBelow (((Below.refl _ _).alloc (Nat.le_refl _) _).alloc (by simp) _) hb1) hb2)).setCell (by simp <;> omega) _).setCell (by simp <;> omega) _).setCell (by simp <;> omega) _

/- Neg and divided -/
set_option maxHeartbeats 1000000 in
theorem rneg_k (k n : Int) (s : ByteArray) (w : World) (h : (k != 2) = true) : Calls Try.prog 28 #[(.agg #[.int .i64 (k), .int .i64 (n), .string (s)])] w fun e w' => e = .returned (.agg #[.int .i64 (0), .int .i64 (0), .string (⟨#[]⟩)]) ∧ Below w.heap.size w w' := by
  go_enter Try.func28, Try.ntmps28
  go_wp2_with fail
  refine (rnull _).mono ?_
  rintro e w1 ⟨rfl, hb1⟩
  obtain ⟨hc1, hf1⟩ := bcell hb1; have za1 : w.heap.size < w1.heap.size := (by have := hb1.size; (try simp at this); omega); have zb1 : w.heap.size + 1 < w1.heap.size := (by have := hb1.size; (try simp at this); omega)
  go_wp2
  refine bodyPost_ret (v := (.agg #[.int .i64 (0), .int .i64 (0), .string (⟨#[]⟩)])) (by simp [results, Try.results28, go_sem, *]) rfl ⟨rfl, ?_⟩
  exact ((((keepBelow (((Below.refl _ _).alloc (Nat.le_refl _) _).alloc (by simp) _) hb1)).setCell (by simp <;> omega) _).setCell (by simp <;> omega) _).setCell (by simp <;> omega) _
set_option maxHeartbeats 1000000 in
theorem rneg_l (s : ByteArray) (w : World)  : Calls Try.prog 28 #[(.agg #[.int .i64 (2), .int .i64 (-9223372036854775808), .string (s)])] w fun e w' => e = .returned (.agg #[.int .i64 (0), .int .i64 (0), .string (⟨#[]⟩)]) ∧ Below w.heap.size w w' := by
  go_enter Try.func28, Try.ntmps28
  go_wp2_with fail
  refine (rnull _).mono ?_
  rintro e w1 ⟨rfl, hb1⟩
  obtain ⟨hc1, hf1⟩ := bcell hb1; have za1 : w.heap.size < w1.heap.size := (by have := hb1.size; (try simp at this); omega); have zb1 : w.heap.size + 1 < w1.heap.size := (by have := hb1.size; (try simp at this); omega)
  go_wp2
  refine bodyPost_ret (v := (.agg #[.int .i64 (0), .int .i64 (0), .string (⟨#[]⟩)])) (by simp [results, Try.results28, go_sem, *]) rfl ⟨rfl, ?_⟩
  exact ((((keepBelow (((Below.refl _ _).alloc (Nat.le_refl _) _).alloc (by simp) _) hb1)).setCell (by simp <;> omega) _).setCell (by simp <;> omega) _).setCell (by simp <;> omega) _
set_option maxHeartbeats 1000000 in
theorem rneg_n (n : Int) (s : ByteArray) (w : World) (h : (n == -9223372036854775808) = false) (h1 : -9223372036854775808 < n) (h2 : n ≤ 9223372036854775807) : Calls Try.prog 28 #[(.agg #[.int .i64 (2), .int .i64 (n), .string (s)])] w fun e w' => e = .returned (.agg #[.int .i64 (2), .int .i64 (-n), .string (⟨#[]⟩)]) ∧ Below w.heap.size w w' := by
  go_enter Try.func28, Try.ntmps28
  go_wp2_with fail
  refine (rnum _ _).mono ?_
  rintro e w1 ⟨rfl, hb1⟩
  obtain ⟨hc1, hf1⟩ := bcell hb1; have za1 : w.heap.size < w1.heap.size := (by have := hb1.size; (try simp at this); omega); have zb1 : w.heap.size + 1 < w1.heap.size := (by have := hb1.size; (try simp at this); omega)
  go_wp2
  refine bodyPost_ret (v := (.agg #[.int .i64 (2), .int .i64 (-n), .string (⟨#[]⟩)])) (by simp [results, Try.results28, go_sem, *]) rfl ⟨rfl, ?_⟩
  exact ((((keepBelow (((Below.refl _ _).alloc (Nat.le_refl _) _).alloc (by simp) _) hb1)).setCell (by simp <;> omega) _).setCell (by simp <;> omega) _).setCell (by simp <;> omega) _
theorem rneg (k n : Int) (s : ByteArray) (w : World) (hn : fits n = true) :
    Calls Try.prog 28 #[(.agg #[.int .i64 (k), .int .i64 (n), .string (s)])] w fun e w' => e = .returned (.agg #[.int .i64 (rK (rkk 6 2 0 k n)), .int .i64 (rN (rkk 6 2 0 k n) (rval 6 0 n)), .string (⟨#[]⟩)]) ∧ Below w.heap.size w w' := by
  rw [fits_iff] at hn
  by_cases h1 : k = 2
  · subst h1
    have e : rkk 6 2 0 2 n = fits (0 - n) := by simp [rkk, rok]
    rw [e]
    by_cases h2 : n = -9223372036854775808
    · subst h2
      exact rneg_l s w
    · have e2 : fits (0 - n) = true := by rw [fits_iff]; omega
      rw [e2]
      have e3 : rN true (rval 6 0 n) = -n := by simp [rN, rval]
      rw [e3]
      exact rneg_n n s w (by simpa using h2) (by omega) hn.2
  · have e : rkk 6 2 0 k n = false := by simp [rkk, h1]
    rw [e]
    exact rneg_k k n s w (by simpa using h1)

set_option maxHeartbeats 1000000 in
theorem vneg (k n : Int) (s : ByteArray) (w : World) (hn : fits n = true) :
    Calls Try.prog 27 #[(.agg #[.int .i64 (k), .int .i64 (n), .string (s)])] w fun e w' => e = .returned (.agg #[.int .i64 (rK (rkk 6 2 0 k n)), .int .i64 (rN (rkk 6 2 0 k n) (rval 6 0 n)), .string (⟨#[]⟩)]) ∧ Below w.heap.size w w' := by
  have HN : Hid (fits n = true) := hn
  clear hn
  go_enter Try.func27, Try.ntmps27
  go_wp2_with fail
  go_region_with (first | (go_at_call 47; refine (vnumber _ _).mono ?_; rintro e w1 ⟨rfl, hb1⟩; obtain ⟨hc1, hf1⟩ := bcell hb1; have za1 : w.heap.size < w1.heap.size := (by have := hb1.size; (try simp at this); omega); have zb1 : w.heap.size + 1 < w1.heap.size := (by have := hb1.size; (try simp at this); omega)) | (go_at_call 25; refine (vreckon _ _ _ _ _ _ _ _ (by decide) HN.out).mono ?_; rintro e w2 ⟨rfl, hb2⟩; obtain ⟨hc2, hf2⟩ := bcell hb2; have za2 : w.heap.size < w2.heap.size := (by have := hb2.size; (try simp at this); omega); have zb2 : w.heap.size + 1 < w2.heap.size := (by have := hb2.size; (try simp at this); omega)))
  all_goals
    go_wp2
    refine bodyPost_ret (v := (.agg #[.int .i64 (rK (rkk 6 2 0 k n)), .int .i64 (rN (rkk 6 2 0 k n) (rval 6 0 n)), .string (⟨#[]⟩)])) (by simp [results, Try.results27, go_sem, *]) rfl ⟨rfl, ?_⟩
    exact ((((keepBelow (keepBelow ((((Below.refl _ _).alloc (Nat.le_refl _) _).alloc (by simp) _)).drew hb1) hb2)).setCell (by simp <;> omega) _).setCell (by simp <;> omega) _).setCell (by simp <;> omega) _

set_option maxHeartbeats 1000000 in
theorem rdiv_0 (op x : Int) (w : World)  : Calls Try.prog 67 #[.int .i64 op, .int .i64 x, .int .i64 0] w fun e w' => e = .returned (.agg #[.int .i64 (0), .int .i64 (0), .string (⟨#[]⟩)]) ∧ Below w.heap.size w w' := by
  go_enter Try.func67, Try.ntmps67
  go_wp2_with fail
  refine (rnull _).mono ?_
  rintro e w1 ⟨rfl, hb1⟩
  obtain ⟨hc1, hf1⟩ := bcell hb1; have za1 : w.heap.size < w1.heap.size := (by have := hb1.size; (try simp at this); omega)
  go_wp2
  refine bodyPost_ret (v := (.agg #[.int .i64 (0), .int .i64 (0), .string (⟨#[]⟩)])) (by simp [results, Try.results67, go_sem, *]) rfl ⟨rfl, ?_⟩
  exact ((((keepBelow ((Below.refl _ _).alloc (Nat.le_refl _) _) hb1)).setCell (by simp <;> omega) _).setCell (by simp <;> omega) _).setCell (by simp <;> omega) _
set_option maxHeartbeats 1000000 in
theorem rdiv_l (op : Int) (w : World)  : Calls Try.prog 67 #[.int .i64 op, .int .i64 (-9223372036854775808), .int .i64 (-1)] w fun e w' => e = .returned (.agg #[.int .i64 (0), .int .i64 (0), .string (⟨#[]⟩)]) ∧ Below w.heap.size w w' := by
  go_enter Try.func67, Try.ntmps67
  go_wp2_with fail
  refine (rnull _).mono ?_
  rintro e w1 ⟨rfl, hb1⟩
  obtain ⟨hc1, hf1⟩ := bcell hb1; have za1 : w.heap.size < w1.heap.size := (by have := hb1.size; (try simp at this); omega)
  go_wp2
  refine bodyPost_ret (v := (.agg #[.int .i64 (0), .int .i64 (0), .string (⟨#[]⟩)])) (by simp [results, Try.results67, go_sem, *]) rfl ⟨rfl, ?_⟩
  exact ((((keepBelow ((Below.refl _ _).alloc (Nat.le_refl _) _) hb1)).setCell (by simp <;> omega) _).setCell (by simp <;> omega) _).setCell (by simp <;> omega) _
set_option maxHeartbeats 1000000 in
theorem rdiv8_a (x y : Int) (w : World) (h0 : (y == 0) = false) (h0' : ¬ y = 0) (hl : (x == -9223372036854775808) = false) (hf : fits (x.tdiv y) = true) : Calls Try.prog 67 #[.int .i64 8, .int .i64 x, .int .i64 y] w fun e w' => e = .returned (.agg #[.int .i64 (2), .int .i64 (x.tdiv y), .string (⟨#[]⟩)]) ∧ Below w.heap.size w w' := by
  have HW : Hid (wrap64 (x.tdiv y) = x.tdiv y) := fits_wrap hf
  clear hf
  go_enter Try.func67, Try.ntmps67
  go_wp2_with fail
  rw [HW.out]
  refine (rnum _ _).mono ?_
  rintro e w1 ⟨rfl, hb1⟩
  obtain ⟨hc1, hf1⟩ := bcell hb1; have za1 : w.heap.size < w1.heap.size := (by have := hb1.size; (try simp at this); omega)
  go_wp2
  refine bodyPost_ret (v := (.agg #[.int .i64 (2), .int .i64 (x.tdiv y), .string (⟨#[]⟩)])) (by simp [results, Try.results67, go_sem, *]) rfl ⟨rfl, ?_⟩
  exact ((((keepBelow ((Below.refl _ _).alloc (Nat.le_refl _) _) hb1)).setCell (by simp <;> omega) _).setCell (by simp <;> omega) _).setCell (by simp <;> omega) _
set_option maxHeartbeats 1000000 in
theorem rdiv8_b (x y : Int) (w : World) (h0 : (y == 0) = false) (h0' : ¬ y = 0) (hl1 : (x == -9223372036854775808) = true) (hl : (y == -1) = false) (hf : fits (x.tdiv y) = true) : Calls Try.prog 67 #[.int .i64 8, .int .i64 x, .int .i64 y] w fun e w' => e = .returned (.agg #[.int .i64 (2), .int .i64 (x.tdiv y), .string (⟨#[]⟩)]) ∧ Below w.heap.size w w' := by
  have HW : Hid (wrap64 (x.tdiv y) = x.tdiv y) := fits_wrap hf
  clear hf
  go_enter Try.func67, Try.ntmps67
  go_wp2_with fail
  rw [HW.out]
  refine (rnum _ _).mono ?_
  rintro e w1 ⟨rfl, hb1⟩
  obtain ⟨hc1, hf1⟩ := bcell hb1; have za1 : w.heap.size < w1.heap.size := (by have := hb1.size; (try simp at this); omega)
  go_wp2
  refine bodyPost_ret (v := (.agg #[.int .i64 (2), .int .i64 (x.tdiv y), .string (⟨#[]⟩)])) (by simp [results, Try.results67, go_sem, *]) rfl ⟨rfl, ?_⟩
  exact ((((keepBelow ((Below.refl _ _).alloc (Nat.le_refl _) _) hb1)).setCell (by simp <;> omega) _).setCell (by simp <;> omega) _).setCell (by simp <;> omega) _
theorem rdiv8 (x y : Int) (w : World) (hx : fits x = true) (hy : fits y = true) : Calls Try.prog 67 #[.int .i64 8, .int .i64 x, .int .i64 y] w fun e w' => e = .returned (.agg #[.int .i64 (rK (dok x y)), .int .i64 (rN (dok x y) (x.tdiv y)), .string (⟨#[]⟩)]) ∧ Below w.heap.size w w' := by
  cases hd : dok x y with
  | true =>
    simp only [dok, Bool.and_eq_true, Bool.not_eq_true'] at hd
    obtain ⟨h0, hl⟩ := hd
    have h0' : ¬ y = 0 := by simpa using h0
    have hf := tdiv_fits hx h0' hl
    cases hx' : (x == -9223372036854775808) with
    | true =>
      have hy' : (y == -1) = false := by
        have := hl
        simp only [least, lo, hx', Bool.true_and] at this
        exact this
      exact rdiv8_b x y w h0 h0' hx' hy' hf
    | false => exact rdiv8_a x y w h0 h0' hx' hf
  | false =>
    simp only [dok, Bool.and_eq_false_iff, Bool.not_eq_false'] at hd
    by_cases h0 : y = 0
    · subst h0
      exact rdiv_0 8 x w
    · have hl : least x y = true := by
        rcases hd with h | h
        · exact absurd (by simpa using h) h0
        · exact h
      simp only [least, lo, Bool.and_eq_true, beq_iff_eq] at hl
      obtain ⟨rfl, rfl⟩ := hl
      exact rdiv_l 8 w
set_option maxHeartbeats 1000000 in
theorem rdiv9_a (x y : Int) (w : World) (h0 : (y == 0) = false) (h0' : ¬ y = 0) (hl : (x == -9223372036854775808) = false) (hf : fits (x.tmod y) = true) : Calls Try.prog 67 #[.int .i64 9, .int .i64 x, .int .i64 y] w fun e w' => e = .returned (.agg #[.int .i64 (2), .int .i64 (x.tmod y), .string (⟨#[]⟩)]) ∧ Below w.heap.size w w' := by
  have HW : Hid (wrap64 (x.tmod y) = x.tmod y) := fits_wrap hf
  clear hf
  go_enter Try.func67, Try.ntmps67
  go_wp2_with fail
  refine (rnum _ _).mono ?_
  rintro e w1 ⟨rfl, hb1⟩
  obtain ⟨hc1, hf1⟩ := bcell hb1; have za1 : w.heap.size < w1.heap.size := (by have := hb1.size; (try simp at this); omega)
  go_wp2
  refine bodyPost_ret (v := (.agg #[.int .i64 (2), .int .i64 (x.tmod y), .string (⟨#[]⟩)])) (by simp [results, Try.results67, go_sem, *]) rfl ⟨rfl, ?_⟩
  exact ((((keepBelow ((Below.refl _ _).alloc (Nat.le_refl _) _) hb1)).setCell (by simp <;> omega) _).setCell (by simp <;> omega) _).setCell (by simp <;> omega) _
set_option maxHeartbeats 1000000 in
theorem rdiv9_b (x y : Int) (w : World) (h0 : (y == 0) = false) (h0' : ¬ y = 0) (hl1 : (x == -9223372036854775808) = true) (hl : (y == -1) = false) (hf : fits (x.tmod y) = true) : Calls Try.prog 67 #[.int .i64 9, .int .i64 x, .int .i64 y] w fun e w' => e = .returned (.agg #[.int .i64 (2), .int .i64 (x.tmod y), .string (⟨#[]⟩)]) ∧ Below w.heap.size w w' := by
  have HW : Hid (wrap64 (x.tmod y) = x.tmod y) := fits_wrap hf
  clear hf
  go_enter Try.func67, Try.ntmps67
  go_wp2_with fail
  refine (rnum _ _).mono ?_
  rintro e w1 ⟨rfl, hb1⟩
  obtain ⟨hc1, hf1⟩ := bcell hb1; have za1 : w.heap.size < w1.heap.size := (by have := hb1.size; (try simp at this); omega)
  go_wp2
  refine bodyPost_ret (v := (.agg #[.int .i64 (2), .int .i64 (x.tmod y), .string (⟨#[]⟩)])) (by simp [results, Try.results67, go_sem, *]) rfl ⟨rfl, ?_⟩
  exact ((((keepBelow ((Below.refl _ _).alloc (Nat.le_refl _) _) hb1)).setCell (by simp <;> omega) _).setCell (by simp <;> omega) _).setCell (by simp <;> omega) _
theorem rdiv9 (x y : Int) (w : World) (hx : fits x = true) (hy : fits y = true) : Calls Try.prog 67 #[.int .i64 9, .int .i64 x, .int .i64 y] w fun e w' => e = .returned (.agg #[.int .i64 (rK (dok x y)), .int .i64 (rN (dok x y) (x.tmod y)), .string (⟨#[]⟩)]) ∧ Below w.heap.size w w' := by
  cases hd : dok x y with
  | true =>
    simp only [dok, Bool.and_eq_true, Bool.not_eq_true'] at hd
    obtain ⟨h0, hl⟩ := hd
    have h0' : ¬ y = 0 := by simpa using h0
    have hf := tmod_fits hx hy
    cases hx' : (x == -9223372036854775808) with
    | true =>
      have hy' : (y == -1) = false := by
        have := hl
        simp only [least, lo, hx', Bool.true_and] at this
        exact this
      exact rdiv9_b x y w h0 h0' hx' hy' hf
    | false => exact rdiv9_a x y w h0 h0' hx' hf
  | false =>
    simp only [dok, Bool.and_eq_false_iff, Bool.not_eq_false'] at hd
    by_cases h0 : y = 0
    · subst h0
      exact rdiv_0 9 x w
    · have hl : least x y = true := by
        rcases hd with h | h
        · exact absurd (by simpa using h) h0
        · exact h
      simp only [least, lo, Bool.and_eq_true, beq_iff_eq] at hl
      obtain ⟨rfl, rfl⟩ := hl
      exact rdiv_l 9 w
end Go.Proofs.Ytohdfohnajifaaa
