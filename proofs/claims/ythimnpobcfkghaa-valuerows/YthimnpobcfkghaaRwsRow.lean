/- ValueRows stands: the call of relstorelaw.ValueRows answers true for every input, and the input reads as it did. -/
import Derived.Test.YthimnpobcfkghaaRows
import Derived.Test.YthimnpobcfkghaaRws
import Derived.Test.YthimnpobcfkghaaOpenVsN
import Derived.ProofKit
import Derived.OpenShut
import Derived.Below
import Derived.Lib.SmallJoins
import Derived.SizedLaws
namespace Go.Proofs.Ythimnpobcfkghaa
open Go.ChangeShapes Go.WideShapes Go.ChangeAt Go.RowKit Go.Joins
open Go.ChangeMaps (open_string)

theorem ownRwsRow : ownKnob Try.prog.godebug = none := by kernel_rfl
theorem laidOutRwsRow : laidOutB Try.prog = true := by kernel_rfl
theorem cellsVRwsRow : Try.prog.cellsOf 42 = 3 := by kernel_rfl
theorem bytesVRwsRow : Try.prog.bytesOf 42 = 32 := by kernel_rfl

set_option maxRecDepth 100000 in
theorem liftedRwsRow (os : Os) (started : os.Started) (H : Type) (enc : TypeId × Value → H) :
    ReturnsInHanded {} Try.checked os 4 .any (Rows.valueRowsSpec.pre6 enc Try.prog Try.f4 Rows.valueRowsRow.domain false) (Rows.valueRowsSpec.post enc Try.prog Try.f4 false true false false) := by
  refine returnsInHanded_of_change_sized (C := Try.checked) ownRwsRow started (by kernel_rfl) Try.func4
    (ChangeSpec.witness6 (enc := enc) (C := Try.checked) false ⟨#[], #[.slice none 0 0, .string ⟨#[]⟩], []⟩ 8 (by kernel_rfl) (by kernel_rfl) (by kernel_rfl) (by kernel_rfl)) ?_
  intro W base args ds gs before hval0 hW _ hsz0 _
  have hval : ∀ (j : Nat) t v, Try.f4.params[j]? = some t → args[j]? = some v → Value.okWide Try.prog W .any base t v := hval0
  have hW' := hW
  obtain ⟨p, q, hA0, hV, rfl, _, _⟩ := hW
  have hA : DataW.TrodAll enc Try.prog W 0 (fun _ => true) true Try.f4.params.toList args.toList ds p := hA0
  have hsz : (DataW.weightsEach Try.prog (Try.f4.params.toList ++ Rows.valueRowsSpec.plain.varTypes Try.prog) (ds ++ gs)).all (· ≤ reachBytes) = true := hsz0
  rw [Try.params4] at hA hval hsz
  obtain ⟨v0, vs0, d0, ds0, p0, q0, hargs, rfl, rfl, h0, r0⟩ := trodAll_cons hA
  obtain ⟨v1, vs1, d1, ds1, p1, q1, rfl, rfl, rfl, h1, r1⟩ := trodAll_cons r0
  obtain ⟨rfl, rfl, rfl⟩ := trodAll_nil r1
  obtain rfl : args = #[v0, v1] := by cases args; simp_all
  obtain ⟨rfl, rfl⟩ := trodVars_none hV
  have lt0 : ∀ x ∈ p0, x.block < W.heap.size := by obtain ⟨m, hm⟩ := h0; exact DataW.trod_lt m _ _ _ hm
  obtain ⟨a0, len0, cap0, rfl⟩ := okWide_slice Try.underlying22 (hval 0 22 v0 rfl rfl)
  obtain ⟨K0, N0, S0, li0, wN0, di0⟩ := open_vsN h0
  have sz0 : len0 * 32 ≤ reachBytes := by
    rcases di0 with ⟨h, _⟩ | ⟨elems, spare, e, hl⟩
    · rw [h]; decide
    · subst e
      have := sized_slice hsz (j := 0) (t := 22) (e := 42) rfl rfl Try.underlying22
      rw [bytesVRwsRow, hl] at this
      omega
  have lt1 : ∀ x ∈ p1, x.block < W.heap.size := by obtain ⟨m, hm⟩ := h1; exact DataW.trod_lt m _ _ _ hm
  obtain ⟨s1, rfl, ws1⟩ : ∃ s : ByteArray, v1 = .string s ∧ s.size ≤ reachBytes := by
    obtain ⟨s, rfl, rfl, -, ws⟩ := open_string Try.underlying9 (hval 1 9 v1 rfl rfl) h1
    have := sized_string hsz (j := 1) (t := 9) (bytes := s.data.toList) rfl rfl
    exact ⟨s, rfl, by simpa using this⟩
  clear hA0 hval0
  refine (lrows a0 len0 cap0 K0 N0 S0 s1 W li0 (by unfold reachBytes at sz0; omega) (fun i hi => bounds_i64 (wN0 i hi)) (by unfold reachBytes at ws1; omega)).mono fun e W' ⟨he, bel⟩ => ?_
  subst he
  exact ⟨_, rfl, _, _, _, [], _, [], hW', trodAll_mk1 (shut_bool Try.underlying4 _), (trodAll_cons_mk (Below.trod laidOutRwsRow (by kernel_rfl) (of_decide_eq_true (by kernel_rfl)) h0 bel lt0) (trodAll_cons_mk (Below.trod laidOutRwsRow (by kernel_rfl) (of_decide_eq_true (by kernel_rfl)) h1 bel lt1) trodAll_mk0)), rfl, bel.frame _, fun h => by cases h⟩

theorem valueRows_holds : Rows.ValueRowsSaid :=
  OpenClaim.holds_of_wide 4 Try.f4 rfl rfl rfl rfl rfl rfl rfl ⟨rfl, rfl, rfl, rfl, rfl⟩ rfl rfl rfl rfl rfl (by kernel_rfl) Try.func4 (by kernel_rfl)
    (of_decide_eq_true (by kernel_rfl)) (by unfold Func.isWrapper; first | (rw [if_pos (by decide +kernel)]; kernel_rfl) | (rw [if_neg (by decide +kernel)]; exact ⟨rfl, rfl⟩))
    (fun os started H enc _ => liftedRwsRow os started H enc)
#print axioms valueRows_holds
end Go.Proofs.Ythimnpobcfkghaa
