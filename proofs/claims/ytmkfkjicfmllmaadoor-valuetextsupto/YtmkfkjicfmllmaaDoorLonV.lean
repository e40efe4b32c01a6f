/- relstoreref's value of a long number, however long -/
import Derived.Test.YtmkfkjicfmllmaaDoorLong7
namespace Go.Proofs.YtmkfkjicfmllmaaDoor
open Go.RowKit
attribute [local go_sem ↓] Go.wp_at_zero Go.wp_at_succ
def numV (x : Int) : Value := if fits x then (.agg #[.int .i64 (2), .int .i64 (x), .string (⟨#[]⟩)]) else (.agg #[.int .i64 (0), .int .i64 (0), .string (⟨#[]⟩)])
set_option maxRecDepth 20000 in
set_option maxHeartbeats 1000000 in
theorem cvalueN (p : Bool) (v : Value) (x : Int) (w : World) (h : DgS 900000 w v x) :
    Calls Tryd.prog 32 #[.agg #[.bool p, v]] w fun e w' => e = .returned (numV (sg p x)) ∧ Below w.heap.size w w' := by
  obtain ⟨a, k, cap, f, rfl, -⟩ := id h
  have HX : Hid (∀ W, Below w.heap.size w W → DgS 900000 W (.slice a k cap) x) := fun W hb => h.below hb
  clear h
  cases hf : fits (sg p x) with
  | true =>
    have HF : Hid (fits (sg p x) = true) := hf
    have e9 : numV (sg p x) = (.agg #[.int .i64 (2), .int .i64 (sg p x), .string (⟨#[]⟩)]) := by unfold numV; rw [hf]; rfl
    rw [e9]
    clear hf e9
    go_enter Tryd.func32, Tryd.ntmps32
    go_wp2_with fail
    refine (csmallN p (.slice a k cap) x _ (HX.out _ (((Below.refl _ _).alloc (Nat.le_refl _) _).alloc (by simp) _))).mono ?_
    rintro e w1 ⟨rfl, hb1⟩
    rw [HF.out]
    obtain ⟨hc1, hf1⟩ := bcell hb1; have za1 : w.heap.size < w1.heap.size := (by have := hb1.size; (try simp at this); omega); have zb1 : w.heap.size + 1 < w1.heap.size := (by have := hb1.size; (try simp at this); omega)
    go_wp2_with fail
    refine (rnum _ _).mono ?_
    rintro e w2 ⟨rfl, hb2⟩
    obtain ⟨hc2, hf2⟩ := bcell hb2; have za2 : w.heap.size < w2.heap.size := (by have := hb2.size; (try simp at this); omega); have zb2 : w.heap.size + 1 < w2.heap.size := (by have := hb2.size; (try simp at this); omega)
    go_wp2
    refine bodyPost_ret (v := (.agg #[.int .i64 (2), .int .i64 (sg p x), .string (⟨#[]⟩)])) (by simp [results, Tryd.results32, go_sem, *]) rfl ⟨rfl, ?_⟩
    exact ((((keepBelow (keepBelow (((Below.refl _ _).alloc (Nat.le_refl _) _).alloc (by simp) _) hb1) hb2)).setCell (by simp <;> omega) _).setCell (by simp <;> omega) _).setCell (by simp <;> omega) _
  | false =>
    have HF : Hid (fits (sg p x) = false) := hf
    have e9 : numV (sg p x) = (.agg #[.int .i64 (0), .int .i64 (0), .string (⟨#[]⟩)]) := by unfold numV; rw [hf]; rfl
    rw [e9]
    clear hf e9
    go_enter Tryd.func32, Tryd.ntmps32
    go_wp2_with fail
    refine (csmallN p (.slice a k cap) x _ (HX.out _ (((Below.refl _ _).alloc (Nat.le_refl _) _).alloc (by simp) _))).mono ?_
    rintro e w1 ⟨rfl, hb1⟩
    rw [HF.out]
    obtain ⟨hc1, hf1⟩ := bcell hb1; have za1 : w.heap.size < w1.heap.size := (by have := hb1.size; (try simp at this); omega); have zb1 : w.heap.size + 1 < w1.heap.size := (by have := hb1.size; (try simp at this); omega)
    go_wp2_with fail
    refine (rnull _).mono ?_
    rintro e w2 ⟨rfl, hb2⟩
    obtain ⟨hc2, hf2⟩ := bcell hb2; have za2 : w.heap.size < w2.heap.size := (by have := hb2.size; (try simp at this); omega); have zb2 : w.heap.size + 1 < w2.heap.size := (by have := hb2.size; (try simp at this); omega)
    go_wp2
    refine bodyPost_ret (v := (.agg #[.int .i64 (0), .int .i64 (0), .string (⟨#[]⟩)])) (by simp [results, Tryd.results32, go_sem, *]) rfl ⟨rfl, ?_⟩
    exact ((((keepBelow (keepBelow (((Below.refl _ _).alloc (Nat.le_refl _) _).alloc (by simp) _) hb1) hb2)).setCell (by simp <;> omega) _).setCell (by simp <;> omega) _).setCell (by simp <;> omega) _
end Go.Proofs.YtmkfkjicfmllmaaDoor
