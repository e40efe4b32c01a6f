/- ValueTexts stands where what it reads is of bulk at most 1,048,576: the call of relstorelaw.ValueTexts answers true, and the input reads as it did; the five variables of Go's library that the row lists hold what the program's text lays (the tied card). -/
import Derived.Test.YtmkfkjicfmllmaaDoorTxt9
import Derived.Test.YtmkfkjicfmllmaaDoorCards
import Derived.Test.YtmkfkjicfmllmaaDoorTie
import Derived.ProofKit
import Derived.OpenShut
import Derived.Below
import Derived.LaidMore
import Derived.Deep.DeepWitnessRowRef
import Derived.Lib.LaidTab
import Derived.Lib.SmallJoins
import Derived.Stop.LaidErr
namespace Go.Proofs.YtmkfkjicfmllmaaDoor
open Go.ChangeShapes Go.WideShapes Go.ChangeAt Go.RowKit Go.Joins
theorem ownTxtRow : ownKnob Tryd.prog.godebug = none := by kernel_rfl
theorem laidOutTxtRow : laidOutB Tryd.prog = true := by kernel_rfl
theorem cellsVTxtRow : Tryd.prog.cellsOf 23 = 3 := by kernel_rfl
theorem gTabTxt : Tryd.prog.globalNamed "internal/strconv.uint64pow10" = some 0 := by kernel_rfl
theorem gSynTxt : Tryd.prog.globalNamed "strconv.ErrSyntax" = some 1 := by kernel_rfl
theorem gRngTxt : Tryd.prog.globalNamed "strconv.ErrRange" = some 2 := by kernel_rfl
theorem starTxt : "*" ++ "errors.errorString" = "*errors.errorString" := by decide
theorem rowErrTxt (u : TypeId) (h : Tryd.prog.typeName? 3 u = some "*errors.errorString") : u = 85 :=
  typeName_ptr_named (nm := "errors.errorString") (by rw [starTxt]; kernel_rfl) (by kernel_rfl) (by decide) u (by rw [starTxt]; exact h)
/- what the row's list gives the walks -/
theorem laidVs {W : World} (h : laidMetH Tryd.prog Rows.valueTextsRow.laid W) : Vs W := by
  rw [MakeChecks.laidMetH_plain _ _ _ (by kernel_rfl)] at h
  have h3 := h.tail.tail
  have h4 := h3.tail
  have h5 := h4.tail
  obtain ⟨a1, s1, v1, -⟩ := laid_sentinel h4 gRngTxt (by kernel_rfl) Tryd.underlying40 rowErrTxt Tryd.underlying85 Tryd.underlying87 rfl rfl Tryd.underlying9 (by kernel_rfl) (by kernel_rfl)
  obtain ⟨a2, s2, v2, -⟩ := laid_sentinel h5 gSynTxt (by kernel_rfl) Tryd.underlying40 rowErrTxt Tryd.underlying85 Tryd.underlying87 rfl rfl Tryd.underlying9 (by kernel_rfl) (by kernel_rfl)
  exact ⟨Lib.tabIs_of_head (zs := Lib.pow10Tab) gTabTxt (by kernel_rfl) Tryd.underlying72 Tryd.underlying55 (by kernel_rfl) (by kernel_rfl) h3, ⟨_, _, v2⟩, ⟨_, _, v1⟩⟩
set_option maxRecDepth 100000 in
theorem contractTxt (H : Type) (enc : TypeId × Value → H) (W : World) (base : Nat) (args : Array Value) (ds gs : List (DataW H)) (before : List MemPlace)
    (hval : ∀ (j : Nat) t v, Tryd.f3.params[j]? = some t → args[j]? = some v → Value.okWide Tryd.prog W .any base t v)
    (hW : DataW.Whole enc Tryd.prog Tryd.f3.params.toList Rows.valueTextsSpec.vars false W args.toList ds gs before) (hk : Rows.uptoSmall H (ds ++ gs) = true) (hL : laidMetH Tryd.prog Rows.valueTextsRow.laid W) :
    Calls Tryd.prog 3 args W fun e W' => ∃ v, e = .returned v ∧ Rows.valueTextsSpec.post enc Tryd.prog Tryd.f3 false true false false W args v W' := by
  have hW' := hW
  obtain ⟨p, q, hA0, hV, rfl, _, _⟩ := hW
  have hA : DataW.TrodAll enc Tryd.prog W 0 (fun _ => true) true Tryd.f3.params.toList args.toList ds p := hA0
  rw [Tryd.params3] at hA hval
  obtain ⟨v0, vs0, d0, ds0, p0, q0, hargs, rfl, rfl, h0, r0⟩ := trodAll_cons hA
  obtain ⟨v1, vs1, d1, ds1, p1, q1, rfl, rfl, rfl, h1, r1⟩ := trodAll_cons r0
  obtain ⟨v2, vs2, d2, ds2, p2, q2, rfl, rfl, rfl, h2, r2⟩ := trodAll_cons r1
  obtain ⟨rfl, rfl, rfl⟩ := trodAll_nil r2
  obtain rfl : args = #[v0, v1, v2] := by cases args; simp_all
  obtain ⟨rfl, rfl⟩ := trodVars_none hV
  have lt0 : ∀ x ∈ p0, x.block < W.heap.size := by obtain ⟨m, hm⟩ := h0; exact DataW.trod_lt m _ _ _ hm
  have lt1 : ∀ x ∈ p1, x.block < W.heap.size := by obtain ⟨m, hm⟩ := h1; exact DataW.trod_lt m _ _ _ hm
  have lt2 : ∀ x ∈ p2, x.block < W.heap.size := by obtain ⟨m, hm⟩ := h2; exact DataW.trod_lt m _ _ _ hm
  obtain ⟨k0, n0, s0, rfl, wn0, b0⟩ : ∃ k n s, v0 = (.agg #[.int .i64 (k), .int .i64 (n), .string (s)]) ∧ (Lit.int .i64 n).wf = true ∧ s.size ≤ Rows.uptoBulk d0 := by
    obtain ⟨c0, c1, c2, y0, y1, y2, m, rfl, hd, -, hy0, hy1, hy2⟩ := open_agg3 Tryd.underlying23 (by kernel_rfl) cellsVTxtRow (hval 0 23 v0 rfl rfl) h0
    obtain ⟨k, e0, -, wk⟩ := DataW.trod_int Tryd.underlying3 hy0
    obtain ⟨n, e1, -, wn⟩ := DataW.trod_int Tryd.underlying2 hy1
    obtain ⟨s, e2, hd2, ws⟩ := DataW.trod_string Tryd.underlying9 hy2
    simp at e0 e1 e2
    subst e0 e1 e2
    refine ⟨k, n, s, rfl, wn, ?_⟩
    rw [hd, hd2]
    show s.size ≤ (Rows.uptoBulk y0.1 + (Rows.uptoBulk y1.1 + ((s.data.toList.length + 1) + 0))) + 1
    have e' : s.data.toList.length = s.size := rfl
    omega
  obtain ⟨k1, n1, s1, rfl, b1⟩ : ∃ k n s, v1 = (.agg #[.int .i64 (k), .int .i64 (n), .string (s)]) ∧ s.size ≤ Rows.uptoBulk d1 := by
    obtain ⟨c0, c1, c2, y0, y1, y2, m, rfl, hd, -, hy0, hy1, hy2⟩ := open_agg3 Tryd.underlying23 (by kernel_rfl) cellsVTxtRow (hval 1 23 v1 rfl rfl) h1
    obtain ⟨k, e0, -, wk⟩ := DataW.trod_int Tryd.underlying3 hy0
    obtain ⟨n, e1, -, wn⟩ := DataW.trod_int Tryd.underlying2 hy1
    obtain ⟨s, e2, hd2, ws⟩ := DataW.trod_string Tryd.underlying9 hy2
    simp at e0 e1 e2
    subst e0 e1 e2
    refine ⟨k, n, s, rfl, ?_⟩
    rw [hd, hd2]
    show s.size ≤ (Rows.uptoBulk y0.1 + (Rows.uptoBulk y1.1 + ((s.data.toList.length + 1) + 0))) + 1
    have e' : s.data.toList.length = s.size := rfl
    omega
  obtain ⟨x2, rfl⟩ : ∃ x, v2 = .int .i64 x := by
    obtain ⟨x, rfl, -, -, wx⟩ := open_int Tryd.underlying3 (hval 2 3 v2 rfl rfl) h2
    exact ⟨x, rfl⟩
  have hsum : s0.size ≤ 1048576 ∧ s1.size ≤ 1048576 := by
    have hb : Rows.uptoBulkAll [d0, d1, d2] ≤ 1048576 := of_decide_eq_true hk
    simp only [Rows.uptoBulkAll] at hb
    omega
  have hn0 : -9223372036854775808 ≤ n0 ∧ n0 ≤ 9223372036854775807 := bounds_i64 wn0
  clear hA0
  refine (ltexts k0 n0 s0 k1 n1 s1 x2 W hn0 hsum.1 hsum.2 (laidVs hL)).mono fun e W' ⟨he, bel⟩ => ?_
  subst he
  exact ⟨_, rfl, _, _, _, [], _, [], hW', trodAll_mk1 (shut_bool Tryd.underlying4 _), (trodAll_cons_mk (Below.trod laidOutTxtRow (by kernel_rfl) (of_decide_eq_true (by kernel_rfl)) h0 bel lt0) (trodAll_cons_mk (Below.trod laidOutTxtRow (by kernel_rfl) (of_decide_eq_true (by kernel_rfl)) h1 bel lt1) (trodAll_cons_mk (Below.trod laidOutTxtRow (by kernel_rfl) (of_decide_eq_true (by kernel_rfl)) h2 bel lt2) trodAll_mk0))), rfl, bel.frame _, fun h => by cases h⟩
/- a start that fits: the heap that the door's own run leaves -/
theorem laid_metTxt (os : Os) : laidMetH Tryd.prog Rows.valueTextsRow.laid ((World.doorLaid Tryd.prog 62 os).forCall (fun _ _ => 0) ⟨#[], #[(.agg #[.int .i64 (0), .int .i64 (0), .string (⟨#[]⟩)]), (.agg #[.int .i64 (0), .int .i64 (0), .string (⟨#[]⟩)]), .int .i64 0], []⟩).memory :=
  laidMetH_of_parts3 (fuel := 8) (laidMet_of_run' 8 (by kernel_rfl) (by kernel_rfl)) (by kernel_rfl) (by kernel_rfl)
theorem readsTxt (os : Os) {H : Type} (enc : TypeId × Value → H) : ∃ places, DataW.whole enc Tryd.prog ((World.doorLaid Tryd.prog 62 os).forCall (fun _ _ => 0) ⟨#[], #[(.agg #[.int .i64 (0), .int .i64 (0), .string (⟨#[]⟩)]), (.agg #[.int .i64 (0), .int .i64 (0), .string (⟨#[]⟩)]), .int .i64 0], []⟩).memory Tryd.f3.params.toList Rows.valueTextsSpec.vars false (#[(.agg #[.int .i64 (0), .int .i64 (0), .string (⟨#[]⟩)]), (.agg #[.int .i64 (0), .int .i64 (0), .string (⟨#[]⟩)]), .int .i64 0] : Array Value).toList 8 = some ([.agg [.lit (.int .i64 0), .lit (.int .i64 0), .lit (.string [])], .agg [.lit (.int .i64 0), .lit (.int .i64 0), .lit (.string [])], .lit (.int .i64 0)], [], places) :=
  ⟨[], by kernel_rfl⟩
set_option maxRecDepth 100000 in
theorem liftedTxt (os : Os) (started : os.Started) (H : Type) (enc : TypeId × Value → H) (F : Stop.Interp) :
    ReturnsInHanded {} Tryd.checked os 3 .any ((Rows.OpenSpec.upto Rows.valueTextsSpec).preRow enc Tryd.prog Tryd.f3 Rows.valueTextsUptoRow.domain false Rows.valueTextsUptoRow.laid) (((Rows.OpenSpec.upto Rows.valueTextsSpec).at F).post enc Tryd.prog Tryd.f3 false true false false) := by
  obtain ⟨places, hx⟩ := readsTxt os enc
  refine returnsInHanded_of_row (C := Tryd.checked) (s := Rows.OpenSpec.upto Rows.valueTextsSpec) ownTxtRow started (by kernel_rfl) Tryd.func3
    (witness_row_atRef (enc := enc) (C := Tryd.checked) false (World.doorLaid Tryd.prog 62 os) #[(.agg #[.int .i64 (0), .int .i64 (0), .string (⟨#[]⟩)]), (.agg #[.int .i64 (0), .int .i64 (0), .string (⟨#[]⟩)]), .int .i64 0] rfl (by kernel_rfl) (by kernel_rfl) (by kernel_rfl)
      (OpenSpec.preRow_of_cond 8 hx (by kernel_rfl) (fun k hk => by cases hk; kernel_rfl) (by kernel_rfl) (laid_metTxt os))) ?_
  intro W base args ds gs before hval hW _ hcond _ hL _ _
  exact contractTxt H enc W base args ds gs before hval hW (hcond _ rfl) hL
theorem saidTxt : Rows.ValueTextsUptoSaid :=
  OpenClaim.holds_of_cond 3 Tryd.f3 rfl rfl rfl rfl rfl rfl rfl ⟨rfl, rfl, rfl, rfl, rfl⟩ rfl rfl rfl rfl rfl (by kernel_rfl) Tryd.func3 (by kernel_rfl)
    (of_decide_eq_true (by kernel_rfl)) (by unfold Func.isWrapper; first | (rw [if_pos (by decide +kernel)]; kernel_rfl) | (rw [if_neg (by decide +kernel)]; exact ⟨rfl, rfl⟩))
    (fun os started H enc _ F => by rw [OpenClaim.pre_eq_preRow]; exact liftedTxt os started H enc F)
theorem plainTxt (f : FuncId) (fn : Func) (hf : Tryd.pinned.checked.prog.funcNamed "relstore/relstorelaw.ValueTexts" = some f) (hfn : Tryd.pinned.checked.prog.funcs[f]? = some fn) :
    true = Tryd.pinned.checked.prog.looks [] ∧ ∀ (j : Nat) t, fn.params[j]? = some t → Tryd.pinned.checked.prog.wantsStandIn t = false := by
  obtain rfl : f = 3 := Option.some.inj ((show Tryd.prog.funcNamed "relstore/relstorelaw.ValueTexts" = some 3 by kernel_rfl).symm.trans hf) |>.symm
  obtain rfl : fn = Tryd.f3 := (Option.some.inj (Tryd.func3.symm.trans hfn)).symm
  refine ⟨by kernel_rfl, fun j t ht => ?_⟩
  rw [Tryd.params3] at ht
  have hm := Array.mem_of_getElem? ht
  have e1 : Tryd.prog.wantsStandIn 23 = false := by kernel_rfl
  have e2 : Tryd.prog.wantsStandIn 3 = false := by kernel_rfl
  simp at hm
  rcases hm with rfl | rfl
  · exact e1
  · exact e2
theorem valueTexts_holds : Rows.ValueTextsUptoCardSaid :=
  Claim7.holds_tied_plain_at .later [] _ _ _ _ saidTxt (fun _ h => by cases h) (by kernel_rfl) (fun _ h => by cases h) valueTextsUpto_row_tie rfl ⟨rfl, rfl⟩ (by kernel_rfl) rfl plainTxt (by kernel_rfl)
#print axioms valueTexts_holds
end Go.Proofs.YtmkfkjicfmllmaaDoor
