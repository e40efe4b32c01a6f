/- ValueLikes stands: the call of relstorekeep.ValueLikes answers true for every input, and the input reads as it did. -/
import Derived.Test.YtdhfpfkhhmdfgabLikes
import Derived.ProofKit
import Derived.OpenShut
import Derived.Below
import Derived.Lib.SmallJoins
import Derived.SizedLaws
namespace Go.Proofs.Ytdhfpfkhhmdfgab
open Go.ChangeShapes Go.WideShapes Go.ChangeAt Go.RowKit Go.Joins
open Go.ChangeMaps (open_string)

theorem ownLikesRow : ownKnob Try.prog.godebug = none := by kernel_rfl
theorem laidOutLikesRow : laidOutB Try.prog = true := by kernel_rfl
theorem cellsVLikesRow : Try.prog.cellsOf 28 = 3 := by kernel_rfl

set_option maxRecDepth 100000 in
theorem liftedLikesRow (os : Os) (started : os.Started) (H : Type) (enc : TypeId × Value → H) :
    ReturnsInHanded {} Try.checked os 5 .any (Rows.valueLikesSpec.pre6 enc Try.prog Try.f5 Rows.valueLikesRow.domain false) (Rows.valueLikesSpec.post enc Try.prog Try.f5 false true false false) := by
  refine returnsInHanded_of_change_sized (C := Try.checked) ownLikesRow started (by kernel_rfl) Try.func5
    (ChangeSpec.witness6 (enc := enc) (C := Try.checked) false ⟨#[], #[.string ⟨#[]⟩, .string ⟨#[]⟩, .string ⟨#[]⟩, .string ⟨#[]⟩], []⟩ 8 (by kernel_rfl) (by kernel_rfl) (by kernel_rfl) (by kernel_rfl)) ?_
  intro W base args ds gs before hval0 hW _ hsz0 _
  have hval : ∀ (j : Nat) t v, Try.f5.params[j]? = some t → args[j]? = some v → Value.okWide Try.prog W .any base t v := hval0
  have hW' := hW
  obtain ⟨p, q, hA0, hV, rfl, _, _⟩ := hW
  have hA : DataW.TrodAll enc Try.prog W 0 (fun _ => true) true Try.f5.params.toList args.toList ds p := hA0
  have hsz : (DataW.weightsEach Try.prog (Try.f5.params.toList ++ Rows.valueLikesSpec.plain.varTypes Try.prog) (ds ++ gs)).all (· ≤ reachBytes) = true := hsz0
  rw [Try.params5] at hA hval hsz
  obtain ⟨v0, vs0, d0, ds0, p0, q0, hargs, rfl, rfl, h0, r0⟩ := trodAll_cons hA
  obtain ⟨v1, vs1, d1, ds1, p1, q1, rfl, rfl, rfl, h1, r1⟩ := trodAll_cons r0
  obtain ⟨v2, vs2, d2, ds2, p2, q2, rfl, rfl, rfl, h2, r2⟩ := trodAll_cons r1
  obtain ⟨v3, vs3, d3, ds3, p3, q3, rfl, rfl, rfl, h3, r3⟩ := trodAll_cons r2
  obtain ⟨rfl, rfl, rfl⟩ := trodAll_nil r3
  obtain rfl : args = #[v0, v1, v2, v3] := by cases args; simp_all
  obtain ⟨rfl, rfl⟩ := trodVars_none hV
  have lt0 : ∀ x ∈ p0, x.block < W.heap.size := by obtain ⟨m, hm⟩ := h0; exact DataW.trod_lt m _ _ _ hm
  obtain ⟨s0, rfl, ws0⟩ : ∃ s : ByteArray, v0 = .string s ∧ s.size ≤ reachBytes := by
    obtain ⟨s, rfl, rfl, -, ws⟩ := open_string Try.underlying9 (hval 0 9 v0 rfl rfl) h0
    have := sized_string hsz (j := 0) (t := 9) (bytes := s.data.toList) rfl rfl
    exact ⟨s, rfl, by simpa using this⟩
  have lt1 : ∀ x ∈ p1, x.block < W.heap.size := by obtain ⟨m, hm⟩ := h1; exact DataW.trod_lt m _ _ _ hm
  obtain ⟨s1, rfl, ws1⟩ : ∃ s : ByteArray, v1 = .string s ∧ s.size ≤ reachBytes := by
    obtain ⟨s, rfl, rfl, -, ws⟩ := open_string Try.underlying9 (hval 1 9 v1 rfl rfl) h1
    have := sized_string hsz (j := 1) (t := 9) (bytes := s.data.toList) rfl rfl
    exact ⟨s, rfl, by simpa using this⟩
  have lt2 : ∀ x ∈ p2, x.block < W.heap.size := by obtain ⟨m, hm⟩ := h2; exact DataW.trod_lt m _ _ _ hm
  obtain ⟨s2, rfl, ws2⟩ : ∃ s : ByteArray, v2 = .string s ∧ s.size ≤ reachBytes := by
    obtain ⟨s, rfl, rfl, -, ws⟩ := open_string Try.underlying9 (hval 2 9 v2 rfl rfl) h2
    have := sized_string hsz (j := 2) (t := 9) (bytes := s.data.toList) rfl rfl
    exact ⟨s, rfl, by simpa using this⟩
  have lt3 : ∀ x ∈ p3, x.block < W.heap.size := by obtain ⟨m, hm⟩ := h3; exact DataW.trod_lt m _ _ _ hm
  obtain ⟨s3, rfl, ws3⟩ : ∃ s : ByteArray, v3 = .string s ∧ s.size ≤ reachBytes := by
    obtain ⟨s, rfl, rfl, -, ws⟩ := open_string Try.underlying9 (hval 3 9 v3 rfl rfl) h3
    have := sized_string hsz (j := 3) (t := 9) (bytes := s.data.toList) rfl rfl
    exact ⟨s, rfl, by simpa using this⟩
  clear hA0 hval0
  refine (clikes s0 s1 s2 s3 W ws0 ws1 ws2 ws3).mono fun e W' ⟨he, bel⟩ => ?_
  subst he
  exact ⟨_, rfl, _, _, _, [], _, [], hW', trodAll_mk1 (shut_bool Try.underlying4 _), (trodAll_cons_mk (Below.trod laidOutLikesRow (by kernel_rfl) (of_decide_eq_true (by kernel_rfl)) h0 bel lt0) (trodAll_cons_mk (Below.trod laidOutLikesRow (by kernel_rfl) (of_decide_eq_true (by kernel_rfl)) h1 bel lt1) (trodAll_cons_mk (Below.trod laidOutLikesRow (by kernel_rfl) (of_decide_eq_true (by kernel_rfl)) h2 bel lt2) (trodAll_cons_mk (Below.trod laidOutLikesRow (by kernel_rfl) (of_decide_eq_true (by kernel_rfl)) h3 bel lt3) trodAll_mk0)))), rfl, bel.frame _, fun h => by cases h⟩

theorem valueLikes_holds : Rows.ValueLikesSaid :=
  OpenClaim.holds_of_wide 5 Try.f5 rfl rfl rfl rfl rfl rfl rfl ⟨rfl, rfl, rfl, rfl, rfl⟩ rfl rfl rfl rfl rfl (by kernel_rfl) Try.func5 (by kernel_rfl)
    (of_decide_eq_true (by kernel_rfl)) (by unfold Func.isWrapper; first | (rw [if_pos (by decide +kernel)]; kernel_rfl) | (rw [if_neg (by decide +kernel)]; exact ⟨rfl, rfl⟩))
    (fun os started H enc _ => liftedLikesRow os started H enc)
#print axioms valueLikes_holds
end Go.Proofs.Ytdhfpfkhhmdfgab
