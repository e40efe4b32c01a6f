/- The contract of value.Reckon: what is reckoned with any values; null where it cannot be. -/
import Derived.Test.YtohdfohnajifaaaReckon
namespace Go.Proofs.Ytohdfohnajifaaa
open Go.RowKit
attribute [local go_sem ↓] Go.wp_at_zero Go.wp_at_succ

def rok (op x y : Int) : Bool := if op = 5 then fits (x + y) else if op = 6 then fits (x - y) else if op = 7 then fits (x * y) else if op = 8 ∨ op = 9 then dok x y else false
def rval (op x y : Int) : Int := if op = 5 then x + y else if op = 6 then x - y else if op = 7 then x * y else if op = 8 then x.tdiv y else x.tmod y
def rkk (op k x k' y : Int) : Bool := k == 2 && k' == 2 && rok op x y
def rK (b : Bool) : Int := if b then 2 else 0
def rN (b : Bool) (v : Int) : Int := if b then v else 0

set_option maxHeartbeats 1000000 in
theorem reck_k1 (op k k' x y : Int) (s s' : ByteArray) (w : World) (h : (k != 2) = true) : Calls Try.prog 25 #[.int .i64 op, (.agg #[.int .i64 (k), .int .i64 (x), .string (s)]), (.agg #[.int .i64 (k'), .int .i64 (y), .string (s')])] w fun e w' => e = .returned (.agg #[.int .i64 (0), .int .i64 (0), .string (⟨#[]⟩)]) ∧ Below w.heap.size w w' := by
  go_enter Try.func25, Try.ntmps25
  go_wp2
  refine bodyPost_ret (v := (.agg #[.int .i64 (0), .int .i64 (0), .string (⟨#[]⟩)])) (by simp [results, Try.results25, go_sem, *]) rfl ⟨rfl, ?_⟩
  exact ((((Below.refl _ _).alloc (Nat.le_refl _) _).alloc (by simp) _).alloc (by simp; omega) _)

set_option maxHeartbeats 1000000 in
theorem reck_k2 (op k' x y : Int) (s s' : ByteArray) (w : World) (h : (k' != 2) = true) : Calls Try.prog 25 #[.int .i64 op, (.agg #[.int .i64 (2), .int .i64 (x), .string (s)]), (.agg #[.int .i64 (k'), .int .i64 (y), .string (s')])] w fun e w' => e = .returned (.agg #[.int .i64 (0), .int .i64 (0), .string (⟨#[]⟩)]) ∧ Below w.heap.size w w' := by
  go_enter Try.func25, Try.ntmps25
  go_wp2
  refine bodyPost_ret (v := (.agg #[.int .i64 (0), .int .i64 (0), .string (⟨#[]⟩)])) (by simp [results, Try.results25, go_sem, *]) rfl ⟨rfl, ?_⟩
  exact ((((Below.refl _ _).alloc (Nat.le_refl _) _).alloc (by simp) _).alloc (by simp; omega) _)

set_option maxHeartbeats 1000000 in
theorem reck_op (op x y : Int) (s s' : ByteArray) (w : World) (h5 : (op == 5) = false) (h6 : (op == 6) = false) (h7 : (op == 7) = false) (h8 : (op == 8) = false) (h9 : (op == 9) = false) : Calls Try.prog 25 #[.int .i64 op, (.agg #[.int .i64 (2), .int .i64 (x), .string (s)]), (.agg #[.int .i64 (2), .int .i64 (y), .string (s')])] w fun e w' => e = .returned (.agg #[.int .i64 (0), .int .i64 (0), .string (⟨#[]⟩)]) ∧ Below w.heap.size w w' := by
  go_enter Try.func25, Try.ntmps25
  go_wp2
  refine bodyPost_ret (v := (.agg #[.int .i64 (0), .int .i64 (0), .string (⟨#[]⟩)])) (by simp [results, Try.results25, go_sem, *]) rfl ⟨rfl, ?_⟩
  exact ((((Below.refl _ _).alloc (Nat.le_refl _) _).alloc (by simp) _).alloc (by simp; omega) _)

set_option maxHeartbeats 1000000 in
theorem reck5f (x y : Int) (s s' : ByteArray) (w : World) (hx : Hid (fits x = true)) (hy : Hid (fits y = true)) (ht : fits (x + y) = false) : Calls Try.prog 25 #[.int .i64 5, (.agg #[.int .i64 (2), .int .i64 (x), .string (s)]), (.agg #[.int .i64 (2), .int .i64 (y), .string (s')])] w fun e w' => e = .returned (.agg #[.int .i64 (0), .int .i64 (0), .string (⟨#[]⟩)]) ∧ Below w.heap.size w w' := by
  go_enter Try.func25, Try.ntmps25
  go_wp2_with fail
  refine (vadd _ _ _ hx.out hy.out).mono ?_
  rintro e w0 ⟨rfl, rfl⟩
  rw [ht]
  clear ht
  go_wp2
  refine bodyPost_ret (v := (.agg #[.int .i64 (0), .int .i64 (0), .string (⟨#[]⟩)])) (by simp [results, Try.results25, go_sem, *]) rfl ⟨rfl, ?_⟩
  exact ((((Below.refl _ _).alloc (Nat.le_refl _) _).alloc (by simp) _).alloc (by simp; omega) _)

set_option maxHeartbeats 1000000 in
theorem reck5t (x y : Int) (s s' : ByteArray) (w : World) (hx : Hid (fits x = true)) (hy : Hid (fits y = true)) (ht : fits (x + y) = true) : Calls Try.prog 25 #[.int .i64 5, (.agg #[.int .i64 (2), .int .i64 (x), .string (s)]), (.agg #[.int .i64 (2), .int .i64 (y), .string (s')])] w fun e w' => e = .returned (.agg #[.int .i64 (2), .int .i64 (x + y), .string (⟨#[]⟩)]) ∧ Below w.heap.size w w' := by
  go_enter Try.func25, Try.ntmps25
  go_wp2_with fail
  refine (vadd _ _ _ hx.out hy.out).mono ?_
  rintro e w0 ⟨rfl, rfl⟩
  rw [ht]
  rw [fits_wrap ht]
  clear ht
  go_wp2_with fail
  refine (vnumber _ _).mono ?_
  rintro e w1 ⟨rfl, hb1⟩
  obtain ⟨hc1, hf1⟩ := bcell hb1; have za1 : w.heap.size < w1.heap.size := (by have := hb1.size; (try simp at this); omega); have zb1 : w.heap.size + 1 < w1.heap.size := (by have := hb1.size; (try simp at this); omega); have zc1 : w.heap.size + 1 + 1 < w1.heap.size := (by have := hb1.size; (try simp at this); omega)
  go_wp2
  refine bodyPost_ret (v := (.agg #[.int .i64 (2), .int .i64 (x + y), .string (⟨#[]⟩)])) (by simp [results, Try.results25, go_sem, *]) rfl ⟨rfl, ?_⟩
  exact ((((keepBelow ((((Below.refl _ _).alloc (Nat.le_refl _) _).alloc (by simp) _).alloc (by simp; omega) _) hb1)).setCell (by simp <;> omega) _).setCell (by simp <;> omega) _).setCell (by simp <;> omega) _

set_option maxHeartbeats 1000000 in
theorem reck6f (x y : Int) (s s' : ByteArray) (w : World) (hx : Hid (fits x = true)) (hy : Hid (fits y = true)) (ht : fits (x - y) = false) : Calls Try.prog 25 #[.int .i64 6, (.agg #[.int .i64 (2), .int .i64 (x), .string (s)]), (.agg #[.int .i64 (2), .int .i64 (y), .string (s')])] w fun e w' => e = .returned (.agg #[.int .i64 (0), .int .i64 (0), .string (⟨#[]⟩)]) ∧ Below w.heap.size w w' := by
  go_enter Try.func25, Try.ntmps25
  go_wp2_with fail
  refine (vsub _ _ _ hx.out hy.out).mono ?_
  rintro e w0 ⟨rfl, rfl⟩
  rw [ht]
  clear ht
  go_wp2
  refine bodyPost_ret (v := (.agg #[.int .i64 (0), .int .i64 (0), .string (⟨#[]⟩)])) (by simp [results, Try.results25, go_sem, *]) rfl ⟨rfl, ?_⟩
  exact ((((Below.refl _ _).alloc (Nat.le_refl _) _).alloc (by simp) _).alloc (by simp; omega) _)

set_option maxHeartbeats 1000000 in
theorem reck6t (x y : Int) (s s' : ByteArray) (w : World) (hx : Hid (fits x = true)) (hy : Hid (fits y = true)) (ht : fits (x - y) = true) : Calls Try.prog 25 #[.int .i64 6, (.agg #[.int .i64 (2), .int .i64 (x), .string (s)]), (.agg #[.int .i64 (2), .int .i64 (y), .string (s')])] w fun e w' => e = .returned (.agg #[.int .i64 (2), .int .i64 (x - y), .string (⟨#[]⟩)]) ∧ Below w.heap.size w w' := by
  go_enter Try.func25, Try.ntmps25
  go_wp2_with fail
  refine (vsub _ _ _ hx.out hy.out).mono ?_
  rintro e w0 ⟨rfl, rfl⟩
  rw [ht]
  rw [fits_wrap ht]
  clear ht
  go_wp2_with fail
  refine (vnumber _ _).mono ?_
  rintro e w1 ⟨rfl, hb1⟩
  obtain ⟨hc1, hf1⟩ := bcell hb1; have za1 : w.heap.size < w1.heap.size := (by have := hb1.size; (try simp at this); omega); have zb1 : w.heap.size + 1 < w1.heap.size := (by have := hb1.size; (try simp at this); omega); have zc1 : w.heap.size + 1 + 1 < w1.heap.size := (by have := hb1.size; (try simp at this); omega)
  go_wp2
  refine bodyPost_ret (v := (.agg #[.int .i64 (2), .int .i64 (x - y), .string (⟨#[]⟩)])) (by simp [results, Try.results25, go_sem, *]) rfl ⟨rfl, ?_⟩
  exact ((((keepBelow ((((Below.refl _ _).alloc (Nat.le_refl _) _).alloc (by simp) _).alloc (by simp; omega) _) hb1)).setCell (by simp <;> omega) _).setCell (by simp <;> omega) _).setCell (by simp <;> omega) _

set_option maxHeartbeats 1000000 in
theorem reck7f (x y : Int) (s s' : ByteArray) (w : World) (hx : Hid (fits x = true)) (hy : Hid (fits y = true)) (ht : fits (x * y) = false) : Calls Try.prog 25 #[.int .i64 7, (.agg #[.int .i64 (2), .int .i64 (x), .string (s)]), (.agg #[.int .i64 (2), .int .i64 (y), .string (s')])] w fun e w' => e = .returned (.agg #[.int .i64 (0), .int .i64 (0), .string (⟨#[]⟩)]) ∧ Below w.heap.size w w' := by
  go_enter Try.func25, Try.ntmps25
  go_wp2_with fail
  refine (vmul _ _ _ hx.out hy.out).mono ?_
  rintro e w0 ⟨m, rfl, hm, nq, rfl⟩
  rw [ht]
  clear hm
  clear ht
  go_wp2
  refine bodyPost_ret (v := (.agg #[.int .i64 (0), .int .i64 (0), .string (⟨#[]⟩)])) (by simp [results, Try.results25, go_sem, *]) rfl ⟨rfl, ?_⟩
  exact ((((below_drewN ((((Below.refl _ _).alloc (Nat.le_refl _) _).alloc (by simp) _).alloc (by simp; omega) _) _)).setCell (by simp <;> omega) _).setCell (by simp <;> omega) _).setCell (by simp <;> omega) _

set_option maxHeartbeats 1000000 in
theorem reck7t (x y : Int) (s s' : ByteArray) (w : World) (hx : Hid (fits x = true)) (hy : Hid (fits y = true)) (ht : fits (x * y) = true) : Calls Try.prog 25 #[.int .i64 7, (.agg #[.int .i64 (2), .int .i64 (x), .string (s)]), (.agg #[.int .i64 (2), .int .i64 (y), .string (s')])] w fun e w' => e = .returned (.agg #[.int .i64 (2), .int .i64 (x * y), .string (⟨#[]⟩)]) ∧ Below w.heap.size w w' := by
  go_enter Try.func25, Try.ntmps25
  go_wp2_with fail
  refine (vmul _ _ _ hx.out hy.out).mono ?_
  rintro e w0 ⟨m, rfl, hm, nq, rfl⟩
  rw [ht]
  rw [hm ht]
  clear hm
  clear ht
  go_wp2_with fail
  refine (vnumber _ _).mono ?_
  rintro e w1 ⟨rfl, hb1⟩
  obtain ⟨hc1, hf1⟩ := bcell hb1; have za1 : w.heap.size < w1.heap.size := (by have := hb1.size; (try simp at this); omega); have zb1 : w.heap.size + 1 < w1.heap.size := (by have := hb1.size; (try simp at this); omega); have zc1 : w.heap.size + 1 + 1 < w1.heap.size := (by have := hb1.size; (try simp at this); omega)
  go_wp2
  refine bodyPost_ret (v := (.agg #[.int .i64 (2), .int .i64 (x * y), .string (⟨#[]⟩)])) (by simp [results, Try.results25, go_sem, *]) rfl ⟨rfl, ?_⟩
  exact ((((keepBelow (below_drewN ((((Below.refl _ _).alloc (Nat.le_refl _) _).alloc (by simp) _).alloc (by simp; omega) _) _) hb1)).setCell (by simp <;> omega) _).setCell (by simp <;> omega) _).setCell (by simp <;> omega) _

set_option maxHeartbeats 1000000 in
theorem reck8f (x y : Int) (s s' : ByteArray) (w : World) (hx : Hid (fits x = true)) (ht : dok x y = false) : Calls Try.prog 25 #[.int .i64 8, (.agg #[.int .i64 (2), .int .i64 (x), .string (s)]), (.agg #[.int .i64 (2), .int .i64 (y), .string (s')])] w fun e w' => e = .returned (.agg #[.int .i64 (0), .int .i64 (0), .string (⟨#[]⟩)]) ∧ Below w.heap.size w w' := by
  go_enter Try.func25, Try.ntmps25
  go_wp2_with fail
  refine (vdiv _ _ _ hx.out).mono ?_
  rintro e w0 ⟨m, rfl, hm, rfl⟩
  rw [ht]
  clear hm
  clear ht
  go_wp2
  refine bodyPost_ret (v := (.agg #[.int .i64 (0), .int .i64 (0), .string (⟨#[]⟩)])) (by simp [results, Try.results25, go_sem, *]) rfl ⟨rfl, ?_⟩
  exact ((((Below.refl _ _).alloc (Nat.le_refl _) _).alloc (by simp) _).alloc (by simp; omega) _)

set_option maxHeartbeats 1000000 in
theorem reck8t (x y : Int) (s s' : ByteArray) (w : World) (hx : Hid (fits x = true)) (ht : dok x y = true) : Calls Try.prog 25 #[.int .i64 8, (.agg #[.int .i64 (2), .int .i64 (x), .string (s)]), (.agg #[.int .i64 (2), .int .i64 (y), .string (s')])] w fun e w' => e = .returned (.agg #[.int .i64 (2), .int .i64 (x.tdiv y), .string (⟨#[]⟩)]) ∧ Below w.heap.size w w' := by
  go_enter Try.func25, Try.ntmps25
  go_wp2_with fail
  refine (vdiv _ _ _ hx.out).mono ?_
  rintro e w0 ⟨m, rfl, hm, rfl⟩
  rw [ht]
  rw [hm ht]
  clear hm
  clear ht
  go_wp2_with fail
  refine (vnumber _ _).mono ?_
  rintro e w1 ⟨rfl, hb1⟩
  obtain ⟨hc1, hf1⟩ := bcell hb1; have za1 : w.heap.size < w1.heap.size := (by have := hb1.size; (try simp at this); omega); have zb1 : w.heap.size + 1 < w1.heap.size := (by have := hb1.size; (try simp at this); omega); have zc1 : w.heap.size + 1 + 1 < w1.heap.size := (by have := hb1.size; (try simp at this); omega)
  go_wp2
  refine bodyPost_ret (v := (.agg #[.int .i64 (2), .int .i64 (x.tdiv y), .string (⟨#[]⟩)])) (by simp [results, Try.results25, go_sem, *]) rfl ⟨rfl, ?_⟩
  exact ((((keepBelow ((((Below.refl _ _).alloc (Nat.le_refl _) _).alloc (by simp) _).alloc (by simp; omega) _) hb1)).setCell (by simp <;> omega) _).setCell (by simp <;> omega) _).setCell (by simp <;> omega) _

set_option maxHeartbeats 1000000 in
theorem reck9f (x y : Int) (s s' : ByteArray) (w : World) (hx : Hid (fits x = true)) (hy : Hid (fits y = true)) (ht : dok x y = false) : Calls Try.prog 25 #[.int .i64 9, (.agg #[.int .i64 (2), .int .i64 (x), .string (s)]), (.agg #[.int .i64 (2), .int .i64 (y), .string (s')])] w fun e w' => e = .returned (.agg #[.int .i64 (0), .int .i64 (0), .string (⟨#[]⟩)]) ∧ Below w.heap.size w w' := by
  go_enter Try.func25, Try.ntmps25
  go_wp2_with fail
  refine (vrem _ _ _ hx.out hy.out).mono ?_
  rintro e w0 ⟨m, rfl, hm, rfl⟩
  rw [ht]
  clear hm
  clear ht
  go_wp2
  refine bodyPost_ret (v := (.agg #[.int .i64 (0), .int .i64 (0), .string (⟨#[]⟩)])) (by simp [results, Try.results25, go_sem, *]) rfl ⟨rfl, ?_⟩
  exact ((((Below.refl _ _).alloc (Nat.le_refl _) _).alloc (by simp) _).alloc (by simp; omega) _)

set_option maxHeartbeats 1000000 in
theorem reck9t (x y : Int) (s s' : ByteArray) (w : World) (hx : Hid (fits x = true)) (hy : Hid (fits y = true)) (ht : dok x y = true) : Calls Try.prog 25 #[.int .i64 9, (.agg #[.int .i64 (2), .int .i64 (x), .string (s)]), (.agg #[.int .i64 (2), .int .i64 (y), .string (s')])] w fun e w' => e = .returned (.agg #[.int .i64 (2), .int .i64 (x.tmod y), .string (⟨#[]⟩)]) ∧ Below w.heap.size w w' := by
  go_enter Try.func25, Try.ntmps25
  go_wp2_with fail
  refine (vrem _ _ _ hx.out hy.out).mono ?_
  rintro e w0 ⟨m, rfl, hm, rfl⟩
  rw [ht]
  rw [hm ht]
  clear hm
  clear ht
  go_wp2_with fail
  refine (vnumber _ _).mono ?_
  rintro e w1 ⟨rfl, hb1⟩
  obtain ⟨hc1, hf1⟩ := bcell hb1; have za1 : w.heap.size < w1.heap.size := (by have := hb1.size; (try simp at this); omega); have zb1 : w.heap.size + 1 < w1.heap.size := (by have := hb1.size; (try simp at this); omega); have zc1 : w.heap.size + 1 + 1 < w1.heap.size := (by have := hb1.size; (try simp at this); omega)
  go_wp2
  refine bodyPost_ret (v := (.agg #[.int .i64 (2), .int .i64 (x.tmod y), .string (⟨#[]⟩)])) (by simp [results, Try.results25, go_sem, *]) rfl ⟨rfl, ?_⟩
  exact ((((keepBelow ((((Below.refl _ _).alloc (Nat.le_refl _) _).alloc (by simp) _).alloc (by simp; omega) _) hb1)).setCell (by simp <;> omega) _).setCell (by simp <;> omega) _).setCell (by simp <;> omega) _

theorem vreckon (op k k' x y : Int) (s s' : ByteArray) (w : World) (hx : fits x = true) (hy : fits y = true) : Calls Try.prog 25 #[.int .i64 op, (.agg #[.int .i64 (k), .int .i64 (x), .string (s)]), (.agg #[.int .i64 (k'), .int .i64 (y), .string (s')])] w fun e w' => e = .returned (.agg #[.int .i64 (rK (rkk op k x k' y)), .int .i64 (rN (rkk op k x k' y) (rval op x y)), .string (⟨#[]⟩)]) ∧ Below w.heap.size w w' := by
  by_cases h1 : k = 2
  · subst h1
    by_cases h2 : k' = 2
    · subst h2
      have e : rkk op 2 x 2 y = rok op x y := by simp [rkk]
      rw [e]
      clear e
      by_cases h5 : op = 5
      · subst h5
        have e : rok 5 x y = fits (x + y) := rfl
        rw [e]
        clear e
        cases ht : fits (x + y) with
        | true => exact reck5t x y s s' w hx hy ht
        | false => exact reck5f x y s s' w hx hy ht
      by_cases h6 : op = 6
      · subst h6
        have e : rok 6 x y = fits (x - y) := rfl
        rw [e]
        clear e
        cases ht : fits (x - y) with
        | true => exact reck6t x y s s' w hx hy ht
        | false => exact reck6f x y s s' w hx hy ht
      by_cases h7 : op = 7
      · subst h7
        have e : rok 7 x y = fits (x * y) := rfl
        rw [e]
        clear e
        cases ht : fits (x * y) with
        | true => exact reck7t x y s s' w hx hy ht
        | false => exact reck7f x y s s' w hx hy ht
      by_cases h8 : op = 8
      · subst h8
        have e : rok 8 x y = dok x y := rfl
        rw [e]
        clear e
        cases ht : dok x y with
        | true => exact reck8t x y s s' w hx ht
        | false => exact reck8f x y s s' w hx ht
      by_cases h9 : op = 9
      · subst h9
        have e : rok 9 x y = dok x y := rfl
        rw [e]
        clear e
        cases ht : dok x y with
        | true => exact reck9t x y s s' w hx hy ht
        | false => exact reck9f x y s s' w hx hy ht
      have e : rok op x y = false := by simp [rok, h5, h6, h7, h8, h9]
      rw [e]
      exact reck_op op x y s s' w (by simpa using h5) (by simpa using h6) (by simpa using h7) (by simpa using h8) (by simpa using h9)
    · have e : rkk op 2 x k' y = false := by simp [rkk, h2]
      rw [e]
      exact reck_k2 op k' x y s s' w (by simpa using h2)
  · have e : rkk op k x k' y = false := by simp [rkk, h1]
    rw [e]
    exact reck_k1 op k k' x y s s' w (by simpa using h1)
end Go.Proofs.Ytohdfohnajifaaa
