/- ValueReckons stands: the call of relstorelaw.ValueReckons answers true for every input, and the input reads as it did. -/
import Derived.Test.YtohdfohnajifaaaReckons
import Derived.ProofKit
import Derived.OpenShut
import Derived.Below
import Derived.Lib.SmallJoins
import Derived.SizedLaws
namespace Go.Proofs.Ytohdfohnajifaaa
open Go.ChangeShapes Go.WideShapes Go.ChangeAt Go.RowKit Go.Joins
open Go.ChangeMaps (open_string)

theorem ownReckonsRow : ownKnob Try.prog.godebug = none := by kernel_rfl
theorem laidOutReckonsRow : laidOutB Try.prog = true := by kernel_rfl
theorem cellsVReckonsRow : Try.prog.cellsOf 23 = 3 := by kernel_rfl

set_option maxRecDepth 100000 in
theorem liftedReckonsRow (os : Os) (started : os.Started) (H : Type) (enc : TypeId × Value → H) :
    ReturnsInHanded {} Try.checked os 5 .any (Rows.valueReckonsSpec.pre6 enc Try.prog Try.f5 Rows.valueReckonsRow.domain false) (Rows.valueReckonsSpec.post enc Try.prog Try.f5 false true false false) := by
  refine returnsInHanded_of_change (C := Try.checked) ownReckonsRow started (by kernel_rfl) Try.func5
    (ChangeSpec.witness6 (enc := enc) (C := Try.checked) false ⟨#[], #[.int .i64 0, (.agg #[.int .i64 (0), .int .i64 (0), .string (⟨#[]⟩)]), (.agg #[.int .i64 (0), .int .i64 (0), .string (⟨#[]⟩)])], []⟩ 8 (by kernel_rfl) (by kernel_rfl) (by kernel_rfl) (by kernel_rfl)) ?_
  intro W base args ds gs before hval0 hW _ _
  have hval : ∀ (j : Nat) t v, Try.f5.params[j]? = some t → args[j]? = some v → Value.okWide Try.prog W .any base t v := hval0
  have hW' := hW
  obtain ⟨p, q, hA0, hV, rfl, _, _⟩ := hW
  have hA : DataW.TrodAll enc Try.prog W 0 (fun _ => true) true Try.f5.params.toList args.toList ds p := hA0
  rw [Try.params5] at hA hval
  obtain ⟨v0, vs0, d0, ds0, p0, q0, hargs, rfl, rfl, h0, r0⟩ := trodAll_cons hA
  obtain ⟨v1, vs1, d1, ds1, p1, q1, rfl, rfl, rfl, h1, r1⟩ := trodAll_cons r0
  obtain ⟨v2, vs2, d2, ds2, p2, q2, rfl, rfl, rfl, h2, r2⟩ := trodAll_cons r1
  obtain ⟨rfl, rfl, rfl⟩ := trodAll_nil r2
  obtain rfl : args = #[v0, v1, v2] := by cases args; simp_all
  obtain ⟨rfl, rfl⟩ := trodVars_none hV
  have lt0 : ∀ x ∈ p0, x.block < W.heap.size := by obtain ⟨m, hm⟩ := h0; exact DataW.trod_lt m _ _ _ hm
  obtain ⟨x0, rfl, wx0⟩ : ∃ x, v0 = .int .i64 x ∧ (Lit.int .i64 x).wf = true := by
    obtain ⟨x, rfl, -, -, wx⟩ := open_int Try.underlying3 (hval 0 3 v0 rfl rfl) h0
    exact ⟨x, rfl, wx⟩
  have lt1 : ∀ x ∈ p1, x.block < W.heap.size := by obtain ⟨m, hm⟩ := h1; exact DataW.trod_lt m _ _ _ hm
  obtain ⟨k1, n1, s1, rfl, wk1, wn1, ws1⟩ : ∃ k n s, v1 = (.agg #[.int .i64 (k), .int .i64 (n), .string (s)]) ∧ (Lit.int .i64 k).wf = true ∧ (Lit.int .i64 n).wf = true ∧ s.size ≤ maxLen := by
    obtain ⟨c0, c1, c2, y0, y1, y2, m, rfl, -, -, hy0, hy1, hy2⟩ := open_agg3 Try.underlying23 (by kernel_rfl) cellsVReckonsRow (hval 1 23 v1 rfl rfl) h1
    obtain ⟨k, e0, -, wk⟩ := DataW.trod_int Try.underlying3 hy0
    obtain ⟨n, e1, -, wn⟩ := DataW.trod_int Try.underlying2 hy1
    obtain ⟨s, e2, -, ws⟩ := DataW.trod_string Try.underlying9 hy2
    simp at e0 e1 e2
    subst e0 e1 e2
    exact ⟨k, n, s, rfl, wk, wn, ws⟩
  have lt2 : ∀ x ∈ p2, x.block < W.heap.size := by obtain ⟨m, hm⟩ := h2; exact DataW.trod_lt m _ _ _ hm
  obtain ⟨k2, n2, s2, rfl, wk2, wn2, ws2⟩ : ∃ k n s, v2 = (.agg #[.int .i64 (k), .int .i64 (n), .string (s)]) ∧ (Lit.int .i64 k).wf = true ∧ (Lit.int .i64 n).wf = true ∧ s.size ≤ maxLen := by
    obtain ⟨c0, c1, c2, y0, y1, y2, m, rfl, -, -, hy0, hy1, hy2⟩ := open_agg3 Try.underlying23 (by kernel_rfl) cellsVReckonsRow (hval 2 23 v2 rfl rfl) h2
    obtain ⟨k, e0, -, wk⟩ := DataW.trod_int Try.underlying3 hy0
    obtain ⟨n, e1, -, wn⟩ := DataW.trod_int Try.underlying2 hy1
    obtain ⟨s, e2, -, ws⟩ := DataW.trod_string Try.underlying9 hy2
    simp at e0 e1 e2
    subst e0 e1 e2
    exact ⟨k, n, s, rfl, wk, wn, ws⟩
  clear hA0 hval0
  refine (lreckons x0 k1 n1 s1 k2 n2 s2 W ((fits_iff _).2 (bounds_i64 wn1)) ((fits_iff _).2 (bounds_i64 wn2))).mono fun e W' ⟨he, bel⟩ => ?_
  subst he
  exact ⟨_, rfl, _, _, _, [], _, [], hW', trodAll_mk1 (shut_bool Try.underlying4 _), (trodAll_cons_mk (Below.trod laidOutReckonsRow (by kernel_rfl) (of_decide_eq_true (by kernel_rfl)) h0 bel lt0) (trodAll_cons_mk (Below.trod laidOutReckonsRow (by kernel_rfl) (of_decide_eq_true (by kernel_rfl)) h1 bel lt1) (trodAll_cons_mk (Below.trod laidOutReckonsRow (by kernel_rfl) (of_decide_eq_true (by kernel_rfl)) h2 bel lt2) trodAll_mk0))), rfl, bel.frame _, fun h => by cases h⟩

theorem valueReckons_holds : Rows.ValueReckonsSaid :=
  OpenClaim.holds_of_wide 5 Try.f5 rfl rfl rfl rfl rfl rfl rfl ⟨rfl, rfl, rfl, rfl, rfl⟩ rfl rfl rfl rfl rfl (by kernel_rfl) Try.func5 (by kernel_rfl)
    (of_decide_eq_true (by kernel_rfl)) (by unfold Func.isWrapper; first | (rw [if_pos (by decide +kernel)]; kernel_rfl) | (rw [if_neg (by decide +kernel)]; exact ⟨rfl, rfl⟩))
    (fun os started H enc _ => liftedReckonsRow os started H enc)
#print axioms valueReckons_holds
end Go.Proofs.Ytohdfohnajifaaa
