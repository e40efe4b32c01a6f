/- The contracts of the truths of three kinds, in both packages: isTrue, isFalse, Both, Either, Not; three, told, Both, Either, Not. -/
import Derived.Test.YtmkfkjicfmllmabLess
namespace Go.Proofs.Ytmkfkjicfmllmab
open Go.RowKit
attribute [local go_sem ↓] Go.wp_at_zero Go.wp_at_succ

def isF (k n : Int) : Bool := k == 1 && n == 0
def isT (k n : Int) : Bool := k == 1 && n != 0
/- 0 false, 1 true, 2 null -/
def th (k n : Int) : Int := if k = 1 then (if n = 0 then 0 else 1) else 2
def tk (t : Int) : Int := if t = 2 then 0 else 1
def tn (t : Int) : Int := if t = 1 then 1 else 0
def both (a b : Int) : Int := if a = 0 ∨ b = 0 then 0 else if a = 1 ∧ b = 1 then 1 else 2
def either (a b : Int) : Int := if a = 1 ∨ b = 1 then 1 else if a = 0 ∧ b = 0 then 0 else 2
def inot (a : Int) : Int := if a = 0 then 1 else if a = 1 then 0 else 2

set_option maxHeartbeats 400000 in
theorem visFalse (k n : Int) (s : ByteArray) (w : World) : Calls Try.prog 53 #[(.agg #[.int .i64 (k), .int .i64 (n), .string (s)])] w fun e w' => e = .returned (.bool (isF k n)) ∧ Below w.heap.size w w' := by
  unfold isF
  by_cases h : (k == 1) = true
  · go_enter Try.func53, Try.ntmps53
    go_wp2
    go_ret
    exact ⟨ret_bool (by simp [h]), ((Below.refl _ _).alloc (Nat.le_refl _) _)⟩
  · have h' : (k == 1) = false := by simpa using h
    go_enter Try.func53, Try.ntmps53
    go_wp2
    go_ret
    exact ⟨ret_bool (by simp [h']), ((Below.refl _ _).alloc (Nat.le_refl _) _)⟩

set_option maxHeartbeats 400000 in
theorem visTrue (k n : Int) (s : ByteArray) (w : World) : Calls Try.prog 54 #[(.agg #[.int .i64 (k), .int .i64 (n), .string (s)])] w fun e w' => e = .returned (.bool (isT k n)) ∧ Below w.heap.size w w' := by
  unfold isT
  by_cases h : (k == 1) = true
  · go_enter Try.func54, Try.ntmps54
    go_wp2
    go_ret
    exact ⟨ret_bool (by simp [h]), ((Below.refl _ _).alloc (Nat.le_refl _) _)⟩
  · have h' : (k == 1) = false := by simpa using h
    go_enter Try.func54, Try.ntmps54
    go_wp2
    go_ret
    exact ⟨ret_bool (by simp [h']), ((Below.refl _ _).alloc (Nat.le_refl _) _)⟩

theorem isF_th (k n : Int) : isF k n = decide (th k n = 0) := by
  unfold isF th; by_cases a : k = 1 <;> by_cases b : n = 0 <;> simp [a, b]
theorem isT_th (k n : Int) : isT k n = decide (th k n = 1) := by
  unfold isT th; by_cases a : k = 1 <;> by_cases b : n = 0 <;> simp [a, b]
theorem th_range (k n : Int) : th k n = 0 ∨ th k n = 1 ∨ th k n = 2 := by
  unfold th; by_cases a : k = 1 <;> by_cases b : n = 0 <;> simp [a, b]

set_option maxHeartbeats 1000000 in
theorem vboth (k n : Int) (s : ByteArray) (k' n' : Int) (s' : ByteArray) (w : World) : Calls Try.prog 19 #[(.agg #[.int .i64 (k), .int .i64 (n), .string (s)]), (.agg #[.int .i64 (k'), .int .i64 (n'), .string (s')])] w fun e w' => e = .returned (.agg #[.int .i64 (tk (both (th k n) (th k' n'))), .int .i64 (tn (both (th k n) (th k' n'))), .string (⟨#[]⟩)]) ∧ Below w.heap.size w w' := by
  have e0 := bn_f
  have e1 := bn_t
  rcases th_range k n with a | a | a <;> rcases th_range k' n' with b | b | b
  · rw [a, b, show tk (both 0 0) = 1 from rfl, show tn (both 0 0) = 0 from rfl]
    have hfa : isF k n = true := by rw [isF_th, a]; rfl
    have hfb : isF k' n' = true := by rw [isF_th, b]; rfl
    have hta : isT k n = false := by rw [isT_th, a]; rfl
    have htb : isT k' n' = false := by rw [isT_th, b]; rfl
    clear a b
    go_enter Try.func19, Try.ntmps19
    go_wp2_with fail
    refine (visFalse _ _ _ _).mono ?_
    rintro e w1 ⟨rfl, hb1⟩
    obtain ⟨hc1, hf1⟩ := bcell hb1; have za1 : w.heap.size < w1.heap.size := (by have := hb1.size; (try simp at this); omega); have zb1 : w.heap.size + 1 < w1.heap.size := (by have := hb1.size; (try simp at this); omega); have zc1 : w.heap.size + 1 + 1 < w1.heap.size := (by have := hb1.size; (try simp at this); omega)
    go_wp2_with fail
    refine (vtruth _ _).mono ?_
    rintro e w2 ⟨rfl, hb2⟩
    obtain ⟨hc2, hf2⟩ := bcell hb2; have za2 : w.heap.size < w2.heap.size := (by have := hb2.size; (try simp at this); omega); have zb2 : w.heap.size + 1 < w2.heap.size := (by have := hb2.size; (try simp at this); omega); have zc2 : w.heap.size + 1 + 1 < w2.heap.size := (by have := hb2.size; (try simp at this); omega)
    go_wp2
    refine bodyPost_ret (v := (.agg #[.int .i64 (1), .int .i64 (0), .string (⟨#[]⟩)])) (by simp [results, Try.results19, go_sem, *]) rfl ⟨rfl, ?_⟩
    exact ((((keepBelow (keepBelow ((((Below.refl _ _).alloc (Nat.le_refl _) _).alloc (by simp) _).alloc (by simp; omega) _) hb1) hb2)).setCell (by simp <;> omega) _).setCell (by simp <;> omega) _).setCell (by simp <;> omega) _
  · rw [a, b, show tk (both 0 1) = 1 from rfl, show tn (both 0 1) = 0 from rfl]
    have hfa : isF k n = true := by rw [isF_th, a]; rfl
    have hfb : isF k' n' = false := by rw [isF_th, b]; rfl
    have hta : isT k n = false := by rw [isT_th, a]; rfl
    have htb : isT k' n' = true := by rw [isT_th, b]; rfl
    clear a b
    go_enter Try.func19, Try.ntmps19
    go_wp2_with fail
    refine (visFalse _ _ _ _).mono ?_
    rintro e w1 ⟨rfl, hb1⟩
    obtain ⟨hc1, hf1⟩ := bcell hb1; have za1 : w.heap.size < w1.heap.size := (by have := hb1.size; (try simp at this); omega); have zb1 : w.heap.size + 1 < w1.heap.size := (by have := hb1.size; (try simp at this); omega); have zc1 : w.heap.size + 1 + 1 < w1.heap.size := (by have := hb1.size; (try simp at this); omega)
    go_wp2_with fail
    refine (vtruth _ _).mono ?_
    rintro e w2 ⟨rfl, hb2⟩
    obtain ⟨hc2, hf2⟩ := bcell hb2; have za2 : w.heap.size < w2.heap.size := (by have := hb2.size; (try simp at this); omega); have zb2 : w.heap.size + 1 < w2.heap.size := (by have := hb2.size; (try simp at this); omega); have zc2 : w.heap.size + 1 + 1 < w2.heap.size := (by have := hb2.size; (try simp at this); omega)
    go_wp2
    refine bodyPost_ret (v := (.agg #[.int .i64 (1), .int .i64 (0), .string (⟨#[]⟩)])) (by simp [results, Try.results19, go_sem, *]) rfl ⟨rfl, ?_⟩
    exact ((((keepBelow (keepBelow ((((Below.refl _ _).alloc (Nat.le_refl _) _).alloc (by simp) _).alloc (by simp; omega) _) hb1) hb2)).setCell (by simp <;> omega) _).setCell (by simp <;> omega) _).setCell (by simp <;> omega) _
  · rw [a, b, show tk (both 0 2) = 1 from rfl, show tn (both 0 2) = 0 from rfl]
    have hfa : isF k n = true := by rw [isF_th, a]; rfl
    have hfb : isF k' n' = false := by rw [isF_th, b]; rfl
    have hta : isT k n = false := by rw [isT_th, a]; rfl
    have htb : isT k' n' = false := by rw [isT_th, b]; rfl
    clear a b
    go_enter Try.func19, Try.ntmps19
    go_wp2_with fail
    refine (visFalse _ _ _ _).mono ?_
    rintro e w1 ⟨rfl, hb1⟩
    obtain ⟨hc1, hf1⟩ := bcell hb1; have za1 : w.heap.size < w1.heap.size := (by have := hb1.size; (try simp at this); omega); have zb1 : w.heap.size + 1 < w1.heap.size := (by have := hb1.size; (try simp at this); omega); have zc1 : w.heap.size + 1 + 1 < w1.heap.size := (by have := hb1.size; (try simp at this); omega)
    go_wp2_with fail
    refine (vtruth _ _).mono ?_
    rintro e w2 ⟨rfl, hb2⟩
    obtain ⟨hc2, hf2⟩ := bcell hb2; have za2 : w.heap.size < w2.heap.size := (by have := hb2.size; (try simp at this); omega); have zb2 : w.heap.size + 1 < w2.heap.size := (by have := hb2.size; (try simp at this); omega); have zc2 : w.heap.size + 1 + 1 < w2.heap.size := (by have := hb2.size; (try simp at this); omega)
    go_wp2
    refine bodyPost_ret (v := (.agg #[.int .i64 (1), .int .i64 (0), .string (⟨#[]⟩)])) (by simp [results, Try.results19, go_sem, *]) rfl ⟨rfl, ?_⟩
    exact ((((keepBelow (keepBelow ((((Below.refl _ _).alloc (Nat.le_refl _) _).alloc (by simp) _).alloc (by simp; omega) _) hb1) hb2)).setCell (by simp <;> omega) _).setCell (by simp <;> omega) _).setCell (by simp <;> omega) _
  · rw [a, b, show tk (both 1 0) = 1 from rfl, show tn (both 1 0) = 0 from rfl]
    have hfa : isF k n = false := by rw [isF_th, a]; rfl
    have hfb : isF k' n' = true := by rw [isF_th, b]; rfl
    have hta : isT k n = true := by rw [isT_th, a]; rfl
    have htb : isT k' n' = false := by rw [isT_th, b]; rfl
    clear a b
    go_enter Try.func19, Try.ntmps19
    go_wp2_with fail
    refine (visFalse _ _ _ _).mono ?_
    rintro e w1 ⟨rfl, hb1⟩
    obtain ⟨hc1, hf1⟩ := bcell hb1; have za1 : w.heap.size < w1.heap.size := (by have := hb1.size; (try simp at this); omega); have zb1 : w.heap.size + 1 < w1.heap.size := (by have := hb1.size; (try simp at this); omega); have zc1 : w.heap.size + 1 + 1 < w1.heap.size := (by have := hb1.size; (try simp at this); omega)
    go_wp2_with fail
    refine (visFalse _ _ _ _).mono ?_
    rintro e w2 ⟨rfl, hb2⟩
    obtain ⟨hc2, hf2⟩ := bcell hb2; have za2 : w.heap.size < w2.heap.size := (by have := hb2.size; (try simp at this); omega); have zb2 : w.heap.size + 1 < w2.heap.size := (by have := hb2.size; (try simp at this); omega); have zc2 : w.heap.size + 1 + 1 < w2.heap.size := (by have := hb2.size; (try simp at this); omega)
    go_wp2_with fail
    refine (vtruth _ _).mono ?_
    rintro e w3 ⟨rfl, hb3⟩
    obtain ⟨hc3, hf3⟩ := bcell hb3; have za3 : w.heap.size < w3.heap.size := (by have := hb3.size; (try simp at this); omega); have zb3 : w.heap.size + 1 < w3.heap.size := (by have := hb3.size; (try simp at this); omega); have zc3 : w.heap.size + 1 + 1 < w3.heap.size := (by have := hb3.size; (try simp at this); omega)
    go_wp2
    refine bodyPost_ret (v := (.agg #[.int .i64 (1), .int .i64 (0), .string (⟨#[]⟩)])) (by simp [results, Try.results19, go_sem, *]) rfl ⟨rfl, ?_⟩
    exact ((((keepBelow (keepBelow (keepBelow ((((Below.refl _ _).alloc (Nat.le_refl _) _).alloc (by simp) _).alloc (by simp; omega) _) hb1) hb2) hb3)).setCell (by simp <;> omega) _).setCell (by simp <;> omega) _).setCell (by simp <;> omega) _
  · rw [a, b, show tk (both 1 1) = 1 from rfl, show tn (both 1 1) = 1 from rfl]
    have hfa : isF k n = false := by rw [isF_th, a]; rfl
    have hfb : isF k' n' = false := by rw [isF_th, b]; rfl
    have hta : isT k n = true := by rw [isT_th, a]; rfl
    have htb : isT k' n' = true := by rw [isT_th, b]; rfl
    clear a b
    go_enter Try.func19, Try.ntmps19
    go_wp2_with fail
    refine (visFalse _ _ _ _).mono ?_
    rintro e w1 ⟨rfl, hb1⟩
    obtain ⟨hc1, hf1⟩ := bcell hb1; have za1 : w.heap.size < w1.heap.size := (by have := hb1.size; (try simp at this); omega); have zb1 : w.heap.size + 1 < w1.heap.size := (by have := hb1.size; (try simp at this); omega); have zc1 : w.heap.size + 1 + 1 < w1.heap.size := (by have := hb1.size; (try simp at this); omega)
    go_wp2_with fail
    refine (visFalse _ _ _ _).mono ?_
    rintro e w2 ⟨rfl, hb2⟩
    obtain ⟨hc2, hf2⟩ := bcell hb2; have za2 : w.heap.size < w2.heap.size := (by have := hb2.size; (try simp at this); omega); have zb2 : w.heap.size + 1 < w2.heap.size := (by have := hb2.size; (try simp at this); omega); have zc2 : w.heap.size + 1 + 1 < w2.heap.size := (by have := hb2.size; (try simp at this); omega)
    go_wp2_with fail
    refine (visTrue _ _ _ _).mono ?_
    rintro e w3 ⟨rfl, hb3⟩
    obtain ⟨hc3, hf3⟩ := bcell hb3; have za3 : w.heap.size < w3.heap.size := (by have := hb3.size; (try simp at this); omega); have zb3 : w.heap.size + 1 < w3.heap.size := (by have := hb3.size; (try simp at this); omega); have zc3 : w.heap.size + 1 + 1 < w3.heap.size := (by have := hb3.size; (try simp at this); omega)
    go_wp2_with fail
    refine (visTrue _ _ _ _).mono ?_
    rintro e w4 ⟨rfl, hb4⟩
    obtain ⟨hc4, hf4⟩ := bcell hb4; have za4 : w.heap.size < w4.heap.size := (by have := hb4.size; (try simp at this); omega); have zb4 : w.heap.size + 1 < w4.heap.size := (by have := hb4.size; (try simp at this); omega); have zc4 : w.heap.size + 1 + 1 < w4.heap.size := (by have := hb4.size; (try simp at this); omega)
    go_wp2_with fail
    refine (vtruth _ _).mono ?_
    rintro e w5 ⟨rfl, hb5⟩
    obtain ⟨hc5, hf5⟩ := bcell hb5; have za5 : w.heap.size < w5.heap.size := (by have := hb5.size; (try simp at this); omega); have zb5 : w.heap.size + 1 < w5.heap.size := (by have := hb5.size; (try simp at this); omega); have zc5 : w.heap.size + 1 + 1 < w5.heap.size := (by have := hb5.size; (try simp at this); omega)
    go_wp2
    refine bodyPost_ret (v := (.agg #[.int .i64 (1), .int .i64 (1), .string (⟨#[]⟩)])) (by simp [results, Try.results19, go_sem, *]) rfl ⟨rfl, ?_⟩
    exact ((((keepBelow (keepBelow (keepBelow (keepBelow (keepBelow ((((Below.refl _ _).alloc (Nat.le_refl _) _).alloc (by simp) _).alloc (by simp; omega) _) hb1) hb2) hb3) hb4) hb5)).setCell (by simp <;> omega) _).setCell (by simp <;> omega) _).setCell (by simp <;> omega) _
  · rw [a, b, show tk (both 1 2) = 0 from rfl, show tn (both 1 2) = 0 from rfl]
    have hfa : isF k n = false := by rw [isF_th, a]; rfl
    have hfb : isF k' n' = false := by rw [isF_th, b]; rfl
    have hta : isT k n = true := by rw [isT_th, a]; rfl
    have htb : isT k' n' = false := by rw [isT_th, b]; rfl
    clear a b
    go_enter Try.func19, Try.ntmps19
    go_wp2_with fail
    refine (visFalse _ _ _ _).mono ?_
    rintro e w1 ⟨rfl, hb1⟩
    obtain ⟨hc1, hf1⟩ := bcell hb1; have za1 : w.heap.size < w1.heap.size := (by have := hb1.size; (try simp at this); omega); have zb1 : w.heap.size + 1 < w1.heap.size := (by have := hb1.size; (try simp at this); omega); have zc1 : w.heap.size + 1 + 1 < w1.heap.size := (by have := hb1.size; (try simp at this); omega)
    go_wp2_with fail
    refine (visFalse _ _ _ _).mono ?_
    rintro e w2 ⟨rfl, hb2⟩
    obtain ⟨hc2, hf2⟩ := bcell hb2; have za2 : w.heap.size < w2.heap.size := (by have := hb2.size; (try simp at this); omega); have zb2 : w.heap.size + 1 < w2.heap.size := (by have := hb2.size; (try simp at this); omega); have zc2 : w.heap.size + 1 + 1 < w2.heap.size := (by have := hb2.size; (try simp at this); omega)
    go_wp2_with fail
    refine (visTrue _ _ _ _).mono ?_
    rintro e w3 ⟨rfl, hb3⟩
    obtain ⟨hc3, hf3⟩ := bcell hb3; have za3 : w.heap.size < w3.heap.size := (by have := hb3.size; (try simp at this); omega); have zb3 : w.heap.size + 1 < w3.heap.size := (by have := hb3.size; (try simp at this); omega); have zc3 : w.heap.size + 1 + 1 < w3.heap.size := (by have := hb3.size; (try simp at this); omega)
    go_wp2_with fail
    refine (visTrue _ _ _ _).mono ?_
    rintro e w4 ⟨rfl, hb4⟩
    obtain ⟨hc4, hf4⟩ := bcell hb4; have za4 : w.heap.size < w4.heap.size := (by have := hb4.size; (try simp at this); omega); have zb4 : w.heap.size + 1 < w4.heap.size := (by have := hb4.size; (try simp at this); omega); have zc4 : w.heap.size + 1 + 1 < w4.heap.size := (by have := hb4.size; (try simp at this); omega)
    go_wp2
    refine bodyPost_ret (v := (.agg #[.int .i64 (0), .int .i64 (0), .string (⟨#[]⟩)])) (by simp [results, Try.results19, go_sem, *]) rfl ⟨rfl, ?_⟩
    exact ((((keepBelow (keepBelow (keepBelow (keepBelow ((((Below.refl _ _).alloc (Nat.le_refl _) _).alloc (by simp) _).alloc (by simp; omega) _) hb1) hb2) hb3) hb4)).setCell (by simp <;> omega) _).setCell (by simp <;> omega) _).setCell (by simp <;> omega) _
  · rw [a, b, show tk (both 2 0) = 1 from rfl, show tn (both 2 0) = 0 from rfl]
    have hfa : isF k n = false := by rw [isF_th, a]; rfl
    have hfb : isF k' n' = true := by rw [isF_th, b]; rfl
    have hta : isT k n = false := by rw [isT_th, a]; rfl
    have htb : isT k' n' = false := by rw [isT_th, b]; rfl
    clear a b
    go_enter Try.func19, Try.ntmps19
    go_wp2_with fail
    refine (visFalse _ _ _ _).mono ?_
    rintro e w1 ⟨rfl, hb1⟩
    obtain ⟨hc1, hf1⟩ := bcell hb1; have za1 : w.heap.size < w1.heap.size := (by have := hb1.size; (try simp at this); omega); have zb1 : w.heap.size + 1 < w1.heap.size := (by have := hb1.size; (try simp at this); omega); have zc1 : w.heap.size + 1 + 1 < w1.heap.size := (by have := hb1.size; (try simp at this); omega)
    go_wp2_with fail
    refine (visFalse _ _ _ _).mono ?_
    rintro e w2 ⟨rfl, hb2⟩
    obtain ⟨hc2, hf2⟩ := bcell hb2; have za2 : w.heap.size < w2.heap.size := (by have := hb2.size; (try simp at this); omega); have zb2 : w.heap.size + 1 < w2.heap.size := (by have := hb2.size; (try simp at this); omega); have zc2 : w.heap.size + 1 + 1 < w2.heap.size := (by have := hb2.size; (try simp at this); omega)
    go_wp2_with fail
    refine (vtruth _ _).mono ?_
    rintro e w3 ⟨rfl, hb3⟩
    obtain ⟨hc3, hf3⟩ := bcell hb3; have za3 : w.heap.size < w3.heap.size := (by have := hb3.size; (try simp at this); omega); have zb3 : w.heap.size + 1 < w3.heap.size := (by have := hb3.size; (try simp at this); omega); have zc3 : w.heap.size + 1 + 1 < w3.heap.size := (by have := hb3.size; (try simp at this); omega)
    go_wp2
    refine bodyPost_ret (v := (.agg #[.int .i64 (1), .int .i64 (0), .string (⟨#[]⟩)])) (by simp [results, Try.results19, go_sem, *]) rfl ⟨rfl, ?_⟩
    exact ((((keepBelow (keepBelow (keepBelow ((((Below.refl _ _).alloc (Nat.le_refl _) _).alloc (by simp) _).alloc (by simp; omega) _) hb1) hb2) hb3)).setCell (by simp <;> omega) _).setCell (by simp <;> omega) _).setCell (by simp <;> omega) _
  · rw [a, b, show tk (both 2 1) = 0 from rfl, show tn (both 2 1) = 0 from rfl]
    have hfa : isF k n = false := by rw [isF_th, a]; rfl
    have hfb : isF k' n' = false := by rw [isF_th, b]; rfl
    have hta : isT k n = false := by rw [isT_th, a]; rfl
    have htb : isT k' n' = true := by rw [isT_th, b]; rfl
    clear a b
    go_enter Try.func19, Try.ntmps19
    go_wp2_with fail
    refine (visFalse _ _ _ _).mono ?_
    rintro e w1 ⟨rfl, hb1⟩
    obtain ⟨hc1, hf1⟩ := bcell hb1; have za1 : w.heap.size < w1.heap.size := (by have := hb1.size; (try simp at this); omega); have zb1 : w.heap.size + 1 < w1.heap.size := (by have := hb1.size; (try simp at this); omega); have zc1 : w.heap.size + 1 + 1 < w1.heap.size := (by have := hb1.size; (try simp at this); omega)
    go_wp2_with fail
    refine (visFalse _ _ _ _).mono ?_
    rintro e w2 ⟨rfl, hb2⟩
    obtain ⟨hc2, hf2⟩ := bcell hb2; have za2 : w.heap.size < w2.heap.size := (by have := hb2.size; (try simp at this); omega); have zb2 : w.heap.size + 1 < w2.heap.size := (by have := hb2.size; (try simp at this); omega); have zc2 : w.heap.size + 1 + 1 < w2.heap.size := (by have := hb2.size; (try simp at this); omega)
    go_wp2_with fail
    refine (visTrue _ _ _ _).mono ?_
    rintro e w3 ⟨rfl, hb3⟩
    obtain ⟨hc3, hf3⟩ := bcell hb3; have za3 : w.heap.size < w3.heap.size := (by have := hb3.size; (try simp at this); omega); have zb3 : w.heap.size + 1 < w3.heap.size := (by have := hb3.size; (try simp at this); omega); have zc3 : w.heap.size + 1 + 1 < w3.heap.size := (by have := hb3.size; (try simp at this); omega)
    go_wp2
    refine bodyPost_ret (v := (.agg #[.int .i64 (0), .int .i64 (0), .string (⟨#[]⟩)])) (by simp [results, Try.results19, go_sem, *]) rfl ⟨rfl, ?_⟩
    exact ((((keepBelow (keepBelow (keepBelow ((((Below.refl _ _).alloc (Nat.le_refl _) _).alloc (by simp) _).alloc (by simp; omega) _) hb1) hb2) hb3)).setCell (by simp <;> omega) _).setCell (by simp <;> omega) _).setCell (by simp <;> omega) _
  · rw [a, b, show tk (both 2 2) = 0 from rfl, show tn (both 2 2) = 0 from rfl]
    have hfa : isF k n = false := by rw [isF_th, a]; rfl
    have hfb : isF k' n' = false := by rw [isF_th, b]; rfl
    have hta : isT k n = false := by rw [isT_th, a]; rfl
    have htb : isT k' n' = false := by rw [isT_th, b]; rfl
    clear a b
    go_enter Try.func19, Try.ntmps19
    go_wp2_with fail
    refine (visFalse _ _ _ _).mono ?_
    rintro e w1 ⟨rfl, hb1⟩
    obtain ⟨hc1, hf1⟩ := bcell hb1; have za1 : w.heap.size < w1.heap.size := (by have := hb1.size; (try simp at this); omega); have zb1 : w.heap.size + 1 < w1.heap.size := (by have := hb1.size; (try simp at this); omega); have zc1 : w.heap.size + 1 + 1 < w1.heap.size := (by have := hb1.size; (try simp at this); omega)
    go_wp2_with fail
    refine (visFalse _ _ _ _).mono ?_
    rintro e w2 ⟨rfl, hb2⟩
    obtain ⟨hc2, hf2⟩ := bcell hb2; have za2 : w.heap.size < w2.heap.size := (by have := hb2.size; (try simp at this); omega); have zb2 : w.heap.size + 1 < w2.heap.size := (by have := hb2.size; (try simp at this); omega); have zc2 : w.heap.size + 1 + 1 < w2.heap.size := (by have := hb2.size; (try simp at this); omega)
    go_wp2_with fail
    refine (visTrue _ _ _ _).mono ?_
    rintro e w3 ⟨rfl, hb3⟩
    obtain ⟨hc3, hf3⟩ := bcell hb3; have za3 : w.heap.size < w3.heap.size := (by have := hb3.size; (try simp at this); omega); have zb3 : w.heap.size + 1 < w3.heap.size := (by have := hb3.size; (try simp at this); omega); have zc3 : w.heap.size + 1 + 1 < w3.heap.size := (by have := hb3.size; (try simp at this); omega)
    go_wp2
    refine bodyPost_ret (v := (.agg #[.int .i64 (0), .int .i64 (0), .string (⟨#[]⟩)])) (by simp [results, Try.results19, go_sem, *]) rfl ⟨rfl, ?_⟩
    exact ((((keepBelow (keepBelow (keepBelow ((((Below.refl _ _).alloc (Nat.le_refl _) _).alloc (by simp) _).alloc (by simp; omega) _) hb1) hb2) hb3)).setCell (by simp <;> omega) _).setCell (by simp <;> omega) _).setCell (by simp <;> omega) _

set_option maxHeartbeats 1000000 in
theorem veither (k n : Int) (s : ByteArray) (k' n' : Int) (s' : ByteArray) (w : World) : Calls Try.prog 20 #[(.agg #[.int .i64 (k), .int .i64 (n), .string (s)]), (.agg #[.int .i64 (k'), .int .i64 (n'), .string (s')])] w fun e w' => e = .returned (.agg #[.int .i64 (tk (either (th k n) (th k' n'))), .int .i64 (tn (either (th k n) (th k' n'))), .string (⟨#[]⟩)]) ∧ Below w.heap.size w w' := by
  have e0 := bn_f
  have e1 := bn_t
  rcases th_range k n with a | a | a <;> rcases th_range k' n' with b | b | b
  · rw [a, b, show tk (either 0 0) = 1 from rfl, show tn (either 0 0) = 0 from rfl]
    have hfa : isF k n = true := by rw [isF_th, a]; rfl
    have hfb : isF k' n' = true := by rw [isF_th, b]; rfl
    have hta : isT k n = false := by rw [isT_th, a]; rfl
    have htb : isT k' n' = false := by rw [isT_th, b]; rfl
    clear a b
    go_enter Try.func20, Try.ntmps20
    go_wp2_with fail
    refine (visTrue _ _ _ _).mono ?_
    rintro e w1 ⟨rfl, hb1⟩
    obtain ⟨hc1, hf1⟩ := bcell hb1; have za1 : w.heap.size < w1.heap.size := (by have := hb1.size; (try simp at this); omega); have zb1 : w.heap.size + 1 < w1.heap.size := (by have := hb1.size; (try simp at this); omega); have zc1 : w.heap.size + 1 + 1 < w1.heap.size := (by have := hb1.size; (try simp at this); omega)
    go_wp2_with fail
    refine (visTrue _ _ _ _).mono ?_
    rintro e w2 ⟨rfl, hb2⟩
    obtain ⟨hc2, hf2⟩ := bcell hb2; have za2 : w.heap.size < w2.heap.size := (by have := hb2.size; (try simp at this); omega); have zb2 : w.heap.size + 1 < w2.heap.size := (by have := hb2.size; (try simp at this); omega); have zc2 : w.heap.size + 1 + 1 < w2.heap.size := (by have := hb2.size; (try simp at this); omega)
    go_wp2_with fail
    refine (visFalse _ _ _ _).mono ?_
    rintro e w3 ⟨rfl, hb3⟩
    obtain ⟨hc3, hf3⟩ := bcell hb3; have za3 : w.heap.size < w3.heap.size := (by have := hb3.size; (try simp at this); omega); have zb3 : w.heap.size + 1 < w3.heap.size := (by have := hb3.size; (try simp at this); omega); have zc3 : w.heap.size + 1 + 1 < w3.heap.size := (by have := hb3.size; (try simp at this); omega)
    go_wp2_with fail
    refine (visFalse _ _ _ _).mono ?_
    rintro e w4 ⟨rfl, hb4⟩
    obtain ⟨hc4, hf4⟩ := bcell hb4; have za4 : w.heap.size < w4.heap.size := (by have := hb4.size; (try simp at this); omega); have zb4 : w.heap.size + 1 < w4.heap.size := (by have := hb4.size; (try simp at this); omega); have zc4 : w.heap.size + 1 + 1 < w4.heap.size := (by have := hb4.size; (try simp at this); omega)
    go_wp2_with fail
    refine (vtruth _ _).mono ?_
    rintro e w5 ⟨rfl, hb5⟩
    obtain ⟨hc5, hf5⟩ := bcell hb5; have za5 : w.heap.size < w5.heap.size := (by have := hb5.size; (try simp at this); omega); have zb5 : w.heap.size + 1 < w5.heap.size := (by have := hb5.size; (try simp at this); omega); have zc5 : w.heap.size + 1 + 1 < w5.heap.size := (by have := hb5.size; (try simp at this); omega)
    go_wp2
    refine bodyPost_ret (v := (.agg #[.int .i64 (1), .int .i64 (0), .string (⟨#[]⟩)])) (by simp [results, Try.results20, go_sem, *]) rfl ⟨rfl, ?_⟩
    exact ((((keepBelow (keepBelow (keepBelow (keepBelow (keepBelow ((((Below.refl _ _).alloc (Nat.le_refl _) _).alloc (by simp) _).alloc (by simp; omega) _) hb1) hb2) hb3) hb4) hb5)).setCell (by simp <;> omega) _).setCell (by simp <;> omega) _).setCell (by simp <;> omega) _
  · rw [a, b, show tk (either 0 1) = 1 from rfl, show tn (either 0 1) = 1 from rfl]
    have hfa : isF k n = true := by rw [isF_th, a]; rfl
    have hfb : isF k' n' = false := by rw [isF_th, b]; rfl
    have hta : isT k n = false := by rw [isT_th, a]; rfl
    have htb : isT k' n' = true := by rw [isT_th, b]; rfl
    clear a b
    go_enter Try.func20, Try.ntmps20
    go_wp2_with fail
    refine (visTrue _ _ _ _).mono ?_
    rintro e w1 ⟨rfl, hb1⟩
    obtain ⟨hc1, hf1⟩ := bcell hb1; have za1 : w.heap.size < w1.heap.size := (by have := hb1.size; (try simp at this); omega); have zb1 : w.heap.size + 1 < w1.heap.size := (by have := hb1.size; (try simp at this); omega); have zc1 : w.heap.size + 1 + 1 < w1.heap.size := (by have := hb1.size; (try simp at this); omega)
    go_wp2_with fail
    refine (visTrue _ _ _ _).mono ?_
    rintro e w2 ⟨rfl, hb2⟩
    obtain ⟨hc2, hf2⟩ := bcell hb2; have za2 : w.heap.size < w2.heap.size := (by have := hb2.size; (try simp at this); omega); have zb2 : w.heap.size + 1 < w2.heap.size := (by have := hb2.size; (try simp at this); omega); have zc2 : w.heap.size + 1 + 1 < w2.heap.size := (by have := hb2.size; (try simp at this); omega)
    go_wp2_with fail
    refine (vtruth _ _).mono ?_
    rintro e w3 ⟨rfl, hb3⟩
    obtain ⟨hc3, hf3⟩ := bcell hb3; have za3 : w.heap.size < w3.heap.size := (by have := hb3.size; (try simp at this); omega); have zb3 : w.heap.size + 1 < w3.heap.size := (by have := hb3.size; (try simp at this); omega); have zc3 : w.heap.size + 1 + 1 < w3.heap.size := (by have := hb3.size; (try simp at this); omega)
    go_wp2
    refine bodyPost_ret (v := (.agg #[.int .i64 (1), .int .i64 (1), .string (⟨#[]⟩)])) (by simp [results, Try.results20, go_sem, *]) rfl ⟨rfl, ?_⟩
    exact ((((keepBelow (keepBelow (keepBelow ((((Below.refl _ _).alloc (Nat.le_refl _) _).alloc (by simp) _).alloc (by simp; omega) _) hb1) hb2) hb3)).setCell (by simp <;> omega) _).setCell (by simp <;> omega) _).setCell (by simp <;> omega) _
  · rw [a, b, show tk (either 0 2) = 0 from rfl, show tn (either 0 2) = 0 from rfl]
    have hfa : isF k n = true := by rw [isF_th, a]; rfl
    have hfb : isF k' n' = false := by rw [isF_th, b]; rfl
    have hta : isT k n = false := by rw [isT_th, a]; rfl
    have htb : isT k' n' = false := by rw [isT_th, b]; rfl
    clear a b
    go_enter Try.func20, Try.ntmps20
    go_wp2_with fail
    refine (visTrue _ _ _ _).mono ?_
    rintro e w1 ⟨rfl, hb1⟩
    obtain ⟨hc1, hf1⟩ := bcell hb1; have za1 : w.heap.size < w1.heap.size := (by have := hb1.size; (try simp at this); omega); have zb1 : w.heap.size + 1 < w1.heap.size := (by have := hb1.size; (try simp at this); omega); have zc1 : w.heap.size + 1 + 1 < w1.heap.size := (by have := hb1.size; (try simp at this); omega)
    go_wp2_with fail
    refine (visTrue _ _ _ _).mono ?_
    rintro e w2 ⟨rfl, hb2⟩
    obtain ⟨hc2, hf2⟩ := bcell hb2; have za2 : w.heap.size < w2.heap.size := (by have := hb2.size; (try simp at this); omega); have zb2 : w.heap.size + 1 < w2.heap.size := (by have := hb2.size; (try simp at this); omega); have zc2 : w.heap.size + 1 + 1 < w2.heap.size := (by have := hb2.size; (try simp at this); omega)
    go_wp2_with fail
    refine (visFalse _ _ _ _).mono ?_
    rintro e w3 ⟨rfl, hb3⟩
    obtain ⟨hc3, hf3⟩ := bcell hb3; have za3 : w.heap.size < w3.heap.size := (by have := hb3.size; (try simp at this); omega); have zb3 : w.heap.size + 1 < w3.heap.size := (by have := hb3.size; (try simp at this); omega); have zc3 : w.heap.size + 1 + 1 < w3.heap.size := (by have := hb3.size; (try simp at this); omega)
    go_wp2_with fail
    refine (visFalse _ _ _ _).mono ?_
    rintro e w4 ⟨rfl, hb4⟩
    obtain ⟨hc4, hf4⟩ := bcell hb4; have za4 : w.heap.size < w4.heap.size := (by have := hb4.size; (try simp at this); omega); have zb4 : w.heap.size + 1 < w4.heap.size := (by have := hb4.size; (try simp at this); omega); have zc4 : w.heap.size + 1 + 1 < w4.heap.size := (by have := hb4.size; (try simp at this); omega)
    go_wp2
    refine bodyPost_ret (v := (.agg #[.int .i64 (0), .int .i64 (0), .string (⟨#[]⟩)])) (by simp [results, Try.results20, go_sem, *]) rfl ⟨rfl, ?_⟩
    exact ((((keepBelow (keepBelow (keepBelow (keepBelow ((((Below.refl _ _).alloc (Nat.le_refl _) _).alloc (by simp) _).alloc (by simp; omega) _) hb1) hb2) hb3) hb4)).setCell (by simp <;> omega) _).setCell (by simp <;> omega) _).setCell (by simp <;> omega) _
  · rw [a, b, show tk (either 1 0) = 1 from rfl, show tn (either 1 0) = 1 from rfl]
    have hfa : isF k n = false := by rw [isF_th, a]; rfl
    have hfb : isF k' n' = true := by rw [isF_th, b]; rfl
    have hta : isT k n = true := by rw [isT_th, a]; rfl
    have htb : isT k' n' = false := by rw [isT_th, b]; rfl
    clear a b
    go_enter Try.func20, Try.ntmps20
    go_wp2_with fail
    refine (visTrue _ _ _ _).mono ?_
    rintro e w1 ⟨rfl, hb1⟩
    obtain ⟨hc1, hf1⟩ := bcell hb1; have za1 : w.heap.size < w1.heap.size := (by have := hb1.size; (try simp at this); omega); have zb1 : w.heap.size + 1 < w1.heap.size := (by have := hb1.size; (try simp at this); omega); have zc1 : w.heap.size + 1 + 1 < w1.heap.size := (by have := hb1.size; (try simp at this); omega)
    go_wp2_with fail
    refine (vtruth _ _).mono ?_
    rintro e w2 ⟨rfl, hb2⟩
    obtain ⟨hc2, hf2⟩ := bcell hb2; have za2 : w.heap.size < w2.heap.size := (by have := hb2.size; (try simp at this); omega); have zb2 : w.heap.size + 1 < w2.heap.size := (by have := hb2.size; (try simp at this); omega); have zc2 : w.heap.size + 1 + 1 < w2.heap.size := (by have := hb2.size; (try simp at this); omega)
    go_wp2
    refine bodyPost_ret (v := (.agg #[.int .i64 (1), .int .i64 (1), .string (⟨#[]⟩)])) (by simp [results, Try.results20, go_sem, *]) rfl ⟨rfl, ?_⟩
    exact ((((keepBelow (keepBelow ((((Below.refl _ _).alloc (Nat.le_refl _) _).alloc (by simp) _).alloc (by simp; omega) _) hb1) hb2)).setCell (by simp <;> omega) _).setCell (by simp <;> omega) _).setCell (by simp <;> omega) _
  · rw [a, b, show tk (either 1 1) = 1 from rfl, show tn (either 1 1) = 1 from rfl]
    have hfa : isF k n = false := by rw [isF_th, a]; rfl
    have hfb : isF k' n' = false := by rw [isF_th, b]; rfl
    have hta : isT k n = true := by rw [isT_th, a]; rfl
    have htb : isT k' n' = true := by rw [isT_th, b]; rfl
    clear a b
    go_enter Try.func20, Try.ntmps20
    go_wp2_with fail
    refine (visTrue _ _ _ _).mono ?_
    rintro e w1 ⟨rfl, hb1⟩
    obtain ⟨hc1, hf1⟩ := bcell hb1; have za1 : w.heap.size < w1.heap.size := (by have := hb1.size; (try simp at this); omega); have zb1 : w.heap.size + 1 < w1.heap.size := (by have := hb1.size; (try simp at this); omega); have zc1 : w.heap.size + 1 + 1 < w1.heap.size := (by have := hb1.size; (try simp at this); omega)
    go_wp2_with fail
    refine (vtruth _ _).mono ?_
    rintro e w2 ⟨rfl, hb2⟩
    obtain ⟨hc2, hf2⟩ := bcell hb2; have za2 : w.heap.size < w2.heap.size := (by have := hb2.size; (try simp at this); omega); have zb2 : w.heap.size + 1 < w2.heap.size := (by have := hb2.size; (try simp at this); omega); have zc2 : w.heap.size + 1 + 1 < w2.heap.size := (by have := hb2.size; (try simp at this); omega)
    go_wp2
    refine bodyPost_ret (v := (.agg #[.int .i64 (1), .int .i64 (1), .string (⟨#[]⟩)])) (by simp [results, Try.results20, go_sem, *]) rfl ⟨rfl, ?_⟩
    exact ((((keepBelow (keepBelow ((((Below.refl _ _).alloc (Nat.le_refl _) _).alloc (by simp) _).alloc (by simp; omega) _) hb1) hb2)).setCell (by simp <;> omega) _).setCell (by simp <;> omega) _).setCell (by simp <;> omega) _
  · rw [a, b, show tk (either 1 2) = 1 from rfl, show tn (either 1 2) = 1 from rfl]
    have hfa : isF k n = false := by rw [isF_th, a]; rfl
    have hfb : isF k' n' = false := by rw [isF_th, b]; rfl
    have hta : isT k n = true := by rw [isT_th, a]; rfl
    have htb : isT k' n' = false := by rw [isT_th, b]; rfl
    clear a b
    go_enter Try.func20, Try.ntmps20
    go_wp2_with fail
    refine (visTrue _ _ _ _).mono ?_
    rintro e w1 ⟨rfl, hb1⟩
    obtain ⟨hc1, hf1⟩ := bcell hb1; have za1 : w.heap.size < w1.heap.size := (by have := hb1.size; (try simp at this); omega); have zb1 : w.heap.size + 1 < w1.heap.size := (by have := hb1.size; (try simp at this); omega); have zc1 : w.heap.size + 1 + 1 < w1.heap.size := (by have := hb1.size; (try simp at this); omega)
    go_wp2_with fail
    refine (vtruth _ _).mono ?_
    rintro e w2 ⟨rfl, hb2⟩
    obtain ⟨hc2, hf2⟩ := bcell hb2; have za2 : w.heap.size < w2.heap.size := (by have := hb2.size; (try simp at this); omega); have zb2 : w.heap.size + 1 < w2.heap.size := (by have := hb2.size; (try simp at this); omega); have zc2 : w.heap.size + 1 + 1 < w2.heap.size := (by have := hb2.size; (try simp at this); omega)
    go_wp2
    refine bodyPost_ret (v := (.agg #[.int .i64 (1), .int .i64 (1), .string (⟨#[]⟩)])) (by simp [results, Try.results20, go_sem, *]) rfl ⟨rfl, ?_⟩
    exact ((((keepBelow (keepBelow ((((Below.refl _ _).alloc (Nat.le_refl _) _).alloc (by simp) _).alloc (by simp; omega) _) hb1) hb2)).setCell (by simp <;> omega) _).setCell (by simp <;> omega) _).setCell (by simp <;> omega) _
  · rw [a, b, show tk (either 2 0) = 0 from rfl, show tn (either 2 0) = 0 from rfl]
    have hfa : isF k n = false := by rw [isF_th, a]; rfl
    have hfb : isF k' n' = true := by rw [isF_th, b]; rfl
    have hta : isT k n = false := by rw [isT_th, a]; rfl
    have htb : isT k' n' = false := by rw [isT_th, b]; rfl
    clear a b
    go_enter Try.func20, Try.ntmps20
    go_wp2_with fail
    refine (visTrue _ _ _ _).mono ?_
    rintro e w1 ⟨rfl, hb1⟩
    obtain ⟨hc1, hf1⟩ := bcell hb1; have za1 : w.heap.size < w1.heap.size := (by have := hb1.size; (try simp at this); omega); have zb1 : w.heap.size + 1 < w1.heap.size := (by have := hb1.size; (try simp at this); omega); have zc1 : w.heap.size + 1 + 1 < w1.heap.size := (by have := hb1.size; (try simp at this); omega)
    go_wp2_with fail
    refine (visTrue _ _ _ _).mono ?_
    rintro e w2 ⟨rfl, hb2⟩
    obtain ⟨hc2, hf2⟩ := bcell hb2; have za2 : w.heap.size < w2.heap.size := (by have := hb2.size; (try simp at this); omega); have zb2 : w.heap.size + 1 < w2.heap.size := (by have := hb2.size; (try simp at this); omega); have zc2 : w.heap.size + 1 + 1 < w2.heap.size := (by have := hb2.size; (try simp at this); omega)
    go_wp2_with fail
    refine (visFalse _ _ _ _).mono ?_
    rintro e w3 ⟨rfl, hb3⟩
    obtain ⟨hc3, hf3⟩ := bcell hb3; have za3 : w.heap.size < w3.heap.size := (by have := hb3.size; (try simp at this); omega); have zb3 : w.heap.size + 1 < w3.heap.size := (by have := hb3.size; (try simp at this); omega); have zc3 : w.heap.size + 1 + 1 < w3.heap.size := (by have := hb3.size; (try simp at this); omega)
    go_wp2
    refine bodyPost_ret (v := (.agg #[.int .i64 (0), .int .i64 (0), .string (⟨#[]⟩)])) (by simp [results, Try.results20, go_sem, *]) rfl ⟨rfl, ?_⟩
    exact ((((keepBelow (keepBelow (keepBelow ((((Below.refl _ _).alloc (Nat.le_refl _) _).alloc (by simp) _).alloc (by simp; omega) _) hb1) hb2) hb3)).setCell (by simp <;> omega) _).setCell (by simp <;> omega) _).setCell (by simp <;> omega) _
  · rw [a, b, show tk (either 2 1) = 1 from rfl, show tn (either 2 1) = 1 from rfl]
    have hfa : isF k n = false := by rw [isF_th, a]; rfl
    have hfb : isF k' n' = false := by rw [isF_th, b]; rfl
    have hta : isT k n = false := by rw [isT_th, a]; rfl
    have htb : isT k' n' = true := by rw [isT_th, b]; rfl
    clear a b
    go_enter Try.func20, Try.ntmps20
    go_wp2_with fail
    refine (visTrue _ _ _ _).mono ?_
    rintro e w1 ⟨rfl, hb1⟩
    obtain ⟨hc1, hf1⟩ := bcell hb1; have za1 : w.heap.size < w1.heap.size := (by have := hb1.size; (try simp at this); omega); have zb1 : w.heap.size + 1 < w1.heap.size := (by have := hb1.size; (try simp at this); omega); have zc1 : w.heap.size + 1 + 1 < w1.heap.size := (by have := hb1.size; (try simp at this); omega)
    go_wp2_with fail
    refine (visTrue _ _ _ _).mono ?_
    rintro e w2 ⟨rfl, hb2⟩
    obtain ⟨hc2, hf2⟩ := bcell hb2; have za2 : w.heap.size < w2.heap.size := (by have := hb2.size; (try simp at this); omega); have zb2 : w.heap.size + 1 < w2.heap.size := (by have := hb2.size; (try simp at this); omega); have zc2 : w.heap.size + 1 + 1 < w2.heap.size := (by have := hb2.size; (try simp at this); omega)
    go_wp2_with fail
    refine (vtruth _ _).mono ?_
    rintro e w3 ⟨rfl, hb3⟩
    obtain ⟨hc3, hf3⟩ := bcell hb3; have za3 : w.heap.size < w3.heap.size := (by have := hb3.size; (try simp at this); omega); have zb3 : w.heap.size + 1 < w3.heap.size := (by have := hb3.size; (try simp at this); omega); have zc3 : w.heap.size + 1 + 1 < w3.heap.size := (by have := hb3.size; (try simp at this); omega)
    go_wp2
    refine bodyPost_ret (v := (.agg #[.int .i64 (1), .int .i64 (1), .string (⟨#[]⟩)])) (by simp [results, Try.results20, go_sem, *]) rfl ⟨rfl, ?_⟩
    exact ((((keepBelow (keepBelow (keepBelow ((((Below.refl _ _).alloc (Nat.le_refl _) _).alloc (by simp) _).alloc (by simp; omega) _) hb1) hb2) hb3)).setCell (by simp <;> omega) _).setCell (by simp <;> omega) _).setCell (by simp <;> omega) _
  · rw [a, b, show tk (either 2 2) = 0 from rfl, show tn (either 2 2) = 0 from rfl]
    have hfa : isF k n = false := by rw [isF_th, a]; rfl
    have hfb : isF k' n' = false := by rw [isF_th, b]; rfl
    have hta : isT k n = false := by rw [isT_th, a]; rfl
    have htb : isT k' n' = false := by rw [isT_th, b]; rfl
    clear a b
    go_enter Try.func20, Try.ntmps20
    go_wp2_with fail
    refine (visTrue _ _ _ _).mono ?_
    rintro e w1 ⟨rfl, hb1⟩
    obtain ⟨hc1, hf1⟩ := bcell hb1; have za1 : w.heap.size < w1.heap.size := (by have := hb1.size; (try simp at this); omega); have zb1 : w.heap.size + 1 < w1.heap.size := (by have := hb1.size; (try simp at this); omega); have zc1 : w.heap.size + 1 + 1 < w1.heap.size := (by have := hb1.size; (try simp at this); omega)
    go_wp2_with fail
    refine (visTrue _ _ _ _).mono ?_
    rintro e w2 ⟨rfl, hb2⟩
    obtain ⟨hc2, hf2⟩ := bcell hb2; have za2 : w.heap.size < w2.heap.size := (by have := hb2.size; (try simp at this); omega); have zb2 : w.heap.size + 1 < w2.heap.size := (by have := hb2.size; (try simp at this); omega); have zc2 : w.heap.size + 1 + 1 < w2.heap.size := (by have := hb2.size; (try simp at this); omega)
    go_wp2_with fail
    refine (visFalse _ _ _ _).mono ?_
    rintro e w3 ⟨rfl, hb3⟩
    obtain ⟨hc3, hf3⟩ := bcell hb3; have za3 : w.heap.size < w3.heap.size := (by have := hb3.size; (try simp at this); omega); have zb3 : w.heap.size + 1 < w3.heap.size := (by have := hb3.size; (try simp at this); omega); have zc3 : w.heap.size + 1 + 1 < w3.heap.size := (by have := hb3.size; (try simp at this); omega)
    go_wp2
    refine bodyPost_ret (v := (.agg #[.int .i64 (0), .int .i64 (0), .string (⟨#[]⟩)])) (by simp [results, Try.results20, go_sem, *]) rfl ⟨rfl, ?_⟩
    exact ((((keepBelow (keepBelow (keepBelow ((((Below.refl _ _).alloc (Nat.le_refl _) _).alloc (by simp) _).alloc (by simp; omega) _) hb1) hb2) hb3)).setCell (by simp <;> omega) _).setCell (by simp <;> omega) _).setCell (by simp <;> omega) _
end Go.Proofs.Ytmkfkjicfmllmab
