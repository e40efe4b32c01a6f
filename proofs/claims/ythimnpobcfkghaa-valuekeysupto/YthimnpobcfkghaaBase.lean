/- The contracts of the small makers of values (truth, number, text, num, str, null, in both packages): what each call gives back; no old memory is changed. -/
import Derived.Test.YthimnpobcfkghaaRows
import Derived.WalkKit
import Derived.WalkSpells
import Derived.WalkLawsBesides
namespace Go.Proofs.Ythimnpobcfkghaa
open Go.RowKit

def bn (b : Bool) : Int := if b then 1 else 0
theorem bn_t : bn true = 1 := rfl
theorem bn_f : bn false = 0 := rfl

set_option maxHeartbeats 400000 in
theorem vtruth (b : Bool) (w : World) : Calls Try.prog 58 #[.bool b] w fun e w' => e = .returned (.agg #[.int .i64 (1), .int .i64 (bn b), .string (⟨#[]⟩)]) ∧ Below w.heap.size w w' := by
  cases b
  all_goals
    go_enter Try.func58, Try.ntmps58
    go_wp2
    exact bodyPost_ret (v := (.agg #[.int .i64 (1), .int .i64 (bn _), .string (⟨#[]⟩)])) (by simp [results, Try.results58, go_sem, bn]) rfl ⟨rfl, (Below.refl _ _).alloc (Nat.le_refl _) _⟩

set_option maxHeartbeats 400000 in
theorem rtruth (b : Bool) (w : World) : Calls Try.prog 37 #[.bool b] w fun e w' => e = .returned (.agg #[.int .i64 (1), .int .i64 (bn b), .string (⟨#[]⟩)]) ∧ Below w.heap.size w w' := by
  cases b
  all_goals
    go_enter Try.func37, Try.ntmps37
    go_wp2
    exact bodyPost_ret (v := (.agg #[.int .i64 (1), .int .i64 (bn _), .string (⟨#[]⟩)])) (by simp [results, Try.results37, go_sem, bn]) rfl ⟨rfl, (Below.refl _ _).alloc (Nat.le_refl _) _⟩

set_option maxHeartbeats 400000 in
theorem vnumber (n : Int) (w : World) : Calls Try.prog 59 #[.int .i64 n] w fun e w' => e = .returned (.agg #[.int .i64 (2), .int .i64 (n), .string (⟨#[]⟩)]) ∧ Below w.heap.size w w' := by
  go_enter Try.func59, Try.ntmps59
  go_wp2
  exact bodyPost_ret (v := (.agg #[.int .i64 (2), .int .i64 (n), .string (⟨#[]⟩)])) (by simp [results, Try.results59, go_sem]) rfl ⟨rfl, (Below.refl _ _).alloc (Nat.le_refl _) _⟩

set_option maxHeartbeats 400000 in
theorem rnum (n : Int) (w : World) : Calls Try.prog 38 #[.int .i64 n] w fun e w' => e = .returned (.agg #[.int .i64 (2), .int .i64 (n), .string (⟨#[]⟩)]) ∧ Below w.heap.size w w' := by
  go_enter Try.func38, Try.ntmps38
  go_wp2
  exact bodyPost_ret (v := (.agg #[.int .i64 (2), .int .i64 (n), .string (⟨#[]⟩)])) (by simp [results, Try.results38, go_sem]) rfl ⟨rfl, (Below.refl _ _).alloc (Nat.le_refl _) _⟩

set_option maxHeartbeats 400000 in
theorem vtext (s : ByteArray) (w : World) : Calls Try.prog 65 #[.string s] w fun e w' => e = .returned (.agg #[.int .i64 (3), .int .i64 (0), .string (s)]) ∧ Below w.heap.size w w' := by
  go_enter Try.func65, Try.ntmps65
  go_wp2
  exact bodyPost_ret (v := (.agg #[.int .i64 (3), .int .i64 (0), .string (s)])) (by simp [results, Try.results65, go_sem]) rfl ⟨rfl, (Below.refl _ _).alloc (Nat.le_refl _) _⟩

set_option maxHeartbeats 400000 in
theorem rstr (s : ByteArray) (w : World) : Calls Try.prog 40 #[.string s] w fun e w' => e = .returned (.agg #[.int .i64 (3), .int .i64 (0), .string (s)]) ∧ Below w.heap.size w w' := by
  go_enter Try.func40, Try.ntmps40
  go_wp2
  exact bodyPost_ret (v := (.agg #[.int .i64 (3), .int .i64 (0), .string (s)])) (by simp [results, Try.results40, go_sem]) rfl ⟨rfl, (Below.refl _ _).alloc (Nat.le_refl _) _⟩

set_option maxHeartbeats 400000 in
theorem rnull (w : World) : Calls Try.prog 36 #[] w fun e w' => e = .returned (.agg #[.int .i64 (0), .int .i64 (0), .string (⟨#[]⟩)]) ∧ Below w.heap.size w w' := by
  go_enter Try.func36, Try.ntmps36
  go_wp2
  exact bodyPost_ret (v := (.agg #[.int .i64 (0), .int .i64 (0), .string (⟨#[]⟩)])) (by simp [results, Try.results36, go_sem]) rfl ⟨rfl, (Below.refl _ _).alloc (Nat.le_refl _) _⟩

theorem bcell {W w1 : World} (hb : Below W.heap.size W w1) : (∀ b o, b < W.heap.size → w1.cell? ⟨b, o, none⟩ = W.cell? ⟨b, o, none⟩) ∧ (∀ b o, b < W.heap.size → w1.frozen? ⟨b, o, none⟩ = W.frozen? ⟨b, o, none⟩) :=
  ⟨fun b o h => hb.cell (p := ⟨b, o, none⟩) h, fun b o h => hb.frozen (p := ⟨b, o, none⟩) h⟩

/- Clean: the kind, the number and the text of a clean value. -/
def ck (k : Int) : Int := if k = 1 then 1 else if k = 2 then 2 else if k = 3 then 3 else 0
def cn (k n : Int) : Int := if k = 1 then bn (n != 0) else if k = 2 then n else 0
def cs (k : Int) (s : ByteArray) : ByteArray := if k = 3 then s else ⟨#[]⟩

set_option maxHeartbeats 1000000 in
theorem vclean (k n : Int) (s : ByteArray) (w : World) : Calls Try.prog 45 #[(.agg #[.int .i64 (k), .int .i64 (n), .string (s)])] w fun e w' => e = .returned (.agg #[.int .i64 (ck k), .int .i64 (cn k n), .string (cs k s)]) ∧ Below w.heap.size w w' := by
  by_cases h1 : k = 1
  · subst h1
    go_enter Try.func45, Try.ntmps45
    go_wp2_with fail
    refine (vtruth _ _).mono ?_
    rintro e w1 ⟨rfl, hb⟩
    obtain ⟨hc, hf⟩ := bcell hb
    have hz : w.heap.size + 1 < w1.heap.size := by have := hb.size; simp at this; omega
    go_wp2
    refine bodyPost_ret (v := (.agg #[.int .i64 (1), .int .i64 (bn (n != 0)), .string (⟨#[]⟩)])) (by simp [results, Try.results45, go_sem, hc]) rfl ⟨rfl, ?_⟩
    exact ((((((Below.refl _ _).alloc (Nat.le_refl _) _).alloc (by simp) _).trans (hb.mono (by simp; omega))).setCell (by simp) _).setCell (by simp) _).setCell (by simp) _
  by_cases h2 : k = 2
  · subst h2
    go_enter Try.func45, Try.ntmps45
    go_wp2_with fail
    refine (vnumber _ _).mono ?_
    rintro e w1 ⟨rfl, hb⟩
    obtain ⟨hc, hf⟩ := bcell hb
    have hz : w.heap.size + 1 < w1.heap.size := by have := hb.size; simp at this; omega
    go_wp2
    refine bodyPost_ret (v := (.agg #[.int .i64 (2), .int .i64 (n), .string (⟨#[]⟩)])) (by simp [results, Try.results45, go_sem, hc]) rfl ⟨rfl, ?_⟩
    exact ((((((Below.refl _ _).alloc (Nat.le_refl _) _).alloc (by simp) _).trans (hb.mono (by simp; omega))).setCell (by simp) _).setCell (by simp) _).setCell (by simp) _
  by_cases h3 : k = 3
  · subst h3
    go_enter Try.func45, Try.ntmps45
    go_wp2_with fail
    refine (vtext _ _).mono ?_
    rintro e w1 ⟨rfl, hb⟩
    obtain ⟨hc, hf⟩ := bcell hb
    have hz : w.heap.size + 1 < w1.heap.size := by have := hb.size; simp at this; omega
    go_wp2
    refine bodyPost_ret (v := (.agg #[.int .i64 (3), .int .i64 (0), .string (s)])) (by simp [results, Try.results45, go_sem, hc]) rfl ⟨rfl, ?_⟩
    exact ((((((Below.refl _ _).alloc (Nat.le_refl _) _).alloc (by simp) _).trans (hb.mono (by simp; omega))).setCell (by simp) _).setCell (by simp) _).setCell (by simp) _
  have e1 : ck k = 0 := by simp [ck, h1, h2, h3]
  have e2 : cn k n = 0 := by simp [cn, h1, h2]
  have e3 : cs k s = ⟨#[]⟩ := by simp [cs, h3]
  rw [e1, e2, e3]
  clear e1 e2 e3
  go_enter Try.func45, Try.ntmps45
  go_wp2
  refine bodyPost_ret (v := (.agg #[.int .i64 (0), .int .i64 (0), .string (⟨#[]⟩)])) (by simp [results, Try.results45, go_sem]) rfl ⟨rfl, ?_⟩
  exact ((((Below.refl _ _).alloc (Nat.le_refl _) _).alloc (by simp) _))

set_option maxHeartbeats 1000000 in
theorem rclean (k n : Int) (s : ByteArray) (w : World) : Calls Try.prog 42 #[(.agg #[.int .i64 (k), .int .i64 (n), .string (s)])] w fun e w' => e = .returned (.agg #[.int .i64 (ck k), .int .i64 (cn k n), .string (cs k s)]) ∧ Below w.heap.size w w' := by
  by_cases h1 : k = 1
  · subst h1
    go_enter Try.func42, Try.ntmps42
    go_wp2_with fail
    refine (rtruth _ _).mono ?_
    rintro e w1 ⟨rfl, hb⟩
    obtain ⟨hc, hf⟩ := bcell hb
    have hz : w.heap.size + 1 < w1.heap.size := by have := hb.size; simp at this; omega
    go_wp2
    refine bodyPost_ret (v := (.agg #[.int .i64 (1), .int .i64 (bn (n != 0)), .string (⟨#[]⟩)])) (by simp [results, Try.results42, go_sem, hc]) rfl ⟨rfl, ?_⟩
    exact ((((((Below.refl _ _).alloc (Nat.le_refl _) _).alloc (by simp) _).trans (hb.mono (by simp; omega))).setCell (by simp) _).setCell (by simp) _).setCell (by simp) _
  by_cases h2 : k = 2
  · subst h2
    go_enter Try.func42, Try.ntmps42
    go_wp2_with fail
    refine (rnum _ _).mono ?_
    rintro e w1 ⟨rfl, hb⟩
    obtain ⟨hc, hf⟩ := bcell hb
    have hz : w.heap.size + 1 < w1.heap.size := by have := hb.size; simp at this; omega
    go_wp2
    refine bodyPost_ret (v := (.agg #[.int .i64 (2), .int .i64 (n), .string (⟨#[]⟩)])) (by simp [results, Try.results42, go_sem, hc]) rfl ⟨rfl, ?_⟩
    exact ((((((Below.refl _ _).alloc (Nat.le_refl _) _).alloc (by simp) _).trans (hb.mono (by simp; omega))).setCell (by simp) _).setCell (by simp) _).setCell (by simp) _
  by_cases h3 : k = 3
  · subst h3
    go_enter Try.func42, Try.ntmps42
    go_wp2_with fail
    refine (rstr _ _).mono ?_
    rintro e w1 ⟨rfl, hb⟩
    obtain ⟨hc, hf⟩ := bcell hb
    have hz : w.heap.size + 1 < w1.heap.size := by have := hb.size; simp at this; omega
    go_wp2
    refine bodyPost_ret (v := (.agg #[.int .i64 (3), .int .i64 (0), .string (s)])) (by simp [results, Try.results42, go_sem, hc]) rfl ⟨rfl, ?_⟩
    exact ((((((Below.refl _ _).alloc (Nat.le_refl _) _).alloc (by simp) _).trans (hb.mono (by simp; omega))).setCell (by simp) _).setCell (by simp) _).setCell (by simp) _
  have e1 : ck k = 0 := by simp [ck, h1, h2, h3]
  have e2 : cn k n = 0 := by simp [cn, h1, h2]
  have e3 : cs k s = ⟨#[]⟩ := by simp [cs, h3]
  rw [e1, e2, e3]
  clear e1 e2 e3
  go_enter Try.func42, Try.ntmps42
  go_wp2_with fail
  refine (rnull _).mono ?_
  rintro e w1 ⟨rfl, hb⟩
  obtain ⟨hc, hf⟩ := bcell hb
  have hz : w.heap.size + 1 < w1.heap.size := by have := hb.size; simp at this; omega
  go_wp2
  refine bodyPost_ret (v := (.agg #[.int .i64 (0), .int .i64 (0), .string (⟨#[]⟩)])) (by simp [results, Try.results42, go_sem, hc]) rfl ⟨rfl, ?_⟩
  exact ((((((Below.refl _ _).alloc (Nat.le_refl _) _).alloc (by simp) _).trans (hb.mono (by simp; omega))).setCell (by simp) _).setCell (by simp) _).setCell (by simp) _
end Go.Proofs.Ythimnpobcfkghaa
