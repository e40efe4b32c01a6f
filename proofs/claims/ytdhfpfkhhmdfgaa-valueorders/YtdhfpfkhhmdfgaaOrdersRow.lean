/- ValueOrders stands: the call of relstorelaw.ValueOrders answers true for every input, and the input reads as it did. -/
import Derived.Test.YtdhfpfkhhmdfgaaOrders
import Derived.Test.YtdhfpfkhhmdfgaaOpenVs
import Derived.ProofKit
import Derived.OpenShut
import Derived.Below
import Derived.Lib.SmallJoins
import Derived.SizedLaws
namespace Go.Proofs.Ytdhfpfkhhmdfgaa
open Go.ChangeShapes Go.WideShapes Go.ChangeAt Go.RowKit Go.Joins
open Go.ChangeMaps (open_string)

theorem ownOrdersRow : ownKnob Try.prog.godebug = none := by kernel_rfl
theorem laidOutOrdersRow : laidOutB Try.prog = true := by kernel_rfl
theorem cellsVOrdersRow : Try.prog.cellsOf 23 = 3 := by kernel_rfl
theorem bytesVOrdersRow : Try.prog.bytesOf 23 = 32 := by kernel_rfl

set_option maxRecDepth 100000 in
theorem liftedOrdersRow (os : Os) (started : os.Started) (H : Type) (enc : TypeId × Value → H) :
    ReturnsInHanded {} Try.checked os 3 .any (Rows.valueOrdersSpec.pre6 enc Try.prog Try.f3 Rows.valueOrdersRow.domain false) (Rows.valueOrdersSpec.post enc Try.prog Try.f3 false true false false) := by
  refine returnsInHanded_of_change_sized (C := Try.checked) ownOrdersRow started (by kernel_rfl) Try.func3
    (ChangeSpec.witness6 (enc := enc) (C := Try.checked) false ⟨#[], #[(.agg #[.int .i64 (0), .int .i64 (0), .string (⟨#[]⟩)]), (.agg #[.int .i64 (0), .int .i64 (0), .string (⟨#[]⟩)]), .slice none 0 0, .slice none 0 0], []⟩ 8 (by kernel_rfl) (by kernel_rfl) (by kernel_rfl) (by kernel_rfl)) ?_
  intro W base args ds gs before hval0 hW _ hsz0 _
  have hval : ∀ (j : Nat) t v, Try.f3.params[j]? = some t → args[j]? = some v → Value.okWide Try.prog W .any base t v := hval0
  have hW' := hW
  obtain ⟨p, q, hA0, hV, rfl, _, _⟩ := hW
  have hA : DataW.TrodAll enc Try.prog W 0 (fun _ => true) true Try.f3.params.toList args.toList ds p := hA0
  have hsz : (DataW.weightsEach Try.prog (Try.f3.params.toList ++ Rows.valueOrdersSpec.plain.varTypes Try.prog) (ds ++ gs)).all (· ≤ reachBytes) = true := hsz0
  rw [Try.params3] at hA hval hsz
  obtain ⟨v0, vs0, d0, ds0, p0, q0, hargs, rfl, rfl, h0, r0⟩ := trodAll_cons hA
  obtain ⟨v1, vs1, d1, ds1, p1, q1, rfl, rfl, rfl, h1, r1⟩ := trodAll_cons r0
  obtain ⟨v2, vs2, d2, ds2, p2, q2, rfl, rfl, rfl, h2, r2⟩ := trodAll_cons r1
  obtain ⟨v3, vs3, d3, ds3, p3, q3, rfl, rfl, rfl, h3, r3⟩ := trodAll_cons r2
  obtain ⟨rfl, rfl, rfl⟩ := trodAll_nil r3
  obtain rfl : args = #[v0, v1, v2, v3] := by cases args; simp_all
  obtain ⟨rfl, rfl⟩ := trodVars_none hV
  have lt0 : ∀ x ∈ p0, x.block < W.heap.size := by obtain ⟨m, hm⟩ := h0; exact DataW.trod_lt m _ _ _ hm
  obtain ⟨k0, n0, s0, rfl, wk0, wn0, ws0⟩ : ∃ k n s, v0 = (.agg #[.int .i64 (k), .int .i64 (n), .string (s)]) ∧ (Lit.int .i64 k).wf = true ∧ (Lit.int .i64 n).wf = true ∧ s.size ≤ maxLen := by
    obtain ⟨c0, c1, c2, y0, y1, y2, m, rfl, -, -, hy0, hy1, hy2⟩ := open_agg3 Try.underlying23 (by kernel_rfl) cellsVOrdersRow (hval 0 23 v0 rfl rfl) h0
    obtain ⟨k, e0, -, wk⟩ := DataW.trod_int Try.underlying3 hy0
    obtain ⟨n, e1, -, wn⟩ := DataW.trod_int Try.underlying2 hy1
    obtain ⟨s, e2, -, ws⟩ := DataW.trod_string Try.underlying9 hy2
    simp at e0 e1 e2
    subst e0 e1 e2
    exact ⟨k, n, s, rfl, wk, wn, ws⟩
  have lt1 : ∀ x ∈ p1, x.block < W.heap.size := by obtain ⟨m, hm⟩ := h1; exact DataW.trod_lt m _ _ _ hm
  obtain ⟨k1, n1, s1, rfl, wk1, wn1, ws1⟩ : ∃ k n s, v1 = (.agg #[.int .i64 (k), .int .i64 (n), .string (s)]) ∧ (Lit.int .i64 k).wf = true ∧ (Lit.int .i64 n).wf = true ∧ s.size ≤ maxLen := by
    obtain ⟨c0, c1, c2, y0, y1, y2, m, rfl, -, -, hy0, hy1, hy2⟩ := open_agg3 Try.underlying23 (by kernel_rfl) cellsVOrdersRow (hval 1 23 v1 rfl rfl) h1
    obtain ⟨k, e0, -, wk⟩ := DataW.trod_int Try.underlying3 hy0
    obtain ⟨n, e1, -, wn⟩ := DataW.trod_int Try.underlying2 hy1
    obtain ⟨s, e2, -, ws⟩ := DataW.trod_string Try.underlying9 hy2
    simp at e0 e1 e2
    subst e0 e1 e2
    exact ⟨k, n, s, rfl, wk, wn, ws⟩
  have lt2 : ∀ x ∈ p2, x.block < W.heap.size := by obtain ⟨m, hm⟩ := h2; exact DataW.trod_lt m _ _ _ hm
  obtain ⟨a2, len2, cap2, rfl⟩ := okWide_slice Try.underlying24 (hval 2 24 v2 rfl rfl)
  obtain ⟨K2, N2, S2, li2, di2⟩ := open_vs h2
  have sz2 : len2 * 32 ≤ reachBytes := by
    rcases di2 with ⟨h, _⟩ | ⟨elems, spare, e, hl⟩
    · rw [h]; decide
    · subst e
      have := sized_slice hsz (j := 2) (t := 24) (e := 23) rfl rfl Try.underlying24
      rw [bytesVOrdersRow, hl] at this
      omega
  have lt3 : ∀ x ∈ p3, x.block < W.heap.size := by obtain ⟨m, hm⟩ := h3; exact DataW.trod_lt m _ _ _ hm
  obtain ⟨a3, len3, cap3, rfl⟩ := okWide_slice Try.underlying24 (hval 3 24 v3 rfl rfl)
  obtain ⟨K3, N3, S3, li3, di3⟩ := open_vs h3
  have sz3 : len3 * 32 ≤ reachBytes := by
    rcases di3 with ⟨h, _⟩ | ⟨elems, spare, e, hl⟩
    · rw [h]; decide
    · subst e
      have := sized_slice hsz (j := 3) (t := 24) (e := 23) rfl rfl Try.underlying24
      rw [bytesVOrdersRow, hl] at this
      omega
  clear hA0 hval0
  refine (lorders k0 n0 s0 k1 n1 s1 a2 len2 cap2 a3 len3 cap3 K2 N2 S2 K3 N3 S3 W li2 li3 sz2 sz3).mono fun e W' ⟨he, bel⟩ => ?_
  subst he
  exact ⟨_, rfl, _, _, _, [], _, [], hW', trodAll_mk1 (shut_bool Try.underlying4 _), (trodAll_cons_mk (Below.trod laidOutOrdersRow (by kernel_rfl) (of_decide_eq_true (by kernel_rfl)) h0 bel lt0) (trodAll_cons_mk (Below.trod laidOutOrdersRow (by kernel_rfl) (of_decide_eq_true (by kernel_rfl)) h1 bel lt1) (trodAll_cons_mk (Below.trod laidOutOrdersRow (by kernel_rfl) (of_decide_eq_true (by kernel_rfl)) h2 bel lt2) (trodAll_cons_mk (Below.trod laidOutOrdersRow (by kernel_rfl) (of_decide_eq_true (by kernel_rfl)) h3 bel lt3) trodAll_mk0)))), rfl, bel.frame _, fun h => by cases h⟩

theorem valueOrders_holds : Rows.ValueOrdersSaid :=
  OpenClaim.holds_of_wide 3 Try.f3 rfl rfl rfl rfl rfl rfl rfl ⟨rfl, rfl, rfl, rfl, rfl⟩ rfl rfl rfl rfl rfl (by kernel_rfl) Try.func3 (by kernel_rfl)
    (of_decide_eq_true (by kernel_rfl)) (by unfold Func.isWrapper; first | (rw [if_pos (by decide +kernel)]; kernel_rfl) | (rw [if_neg (by decide +kernel)]; exact ⟨rfl, rfl⟩))
    (fun os started H enc _ => liftedOrdersRow os started H enc)
#print axioms valueOrders_holds
end Go.Proofs.Ytdhfpfkhhmdfgaa
