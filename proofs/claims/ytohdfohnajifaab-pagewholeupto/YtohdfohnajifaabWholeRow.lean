/- PageWhole stands where what it reads is of bulk at most 1,048,576: the call of relstorekeep.PageWhole answers true, and the input reads as it did. -/
import Derived.Test.YtohdfohnajifaabRows
import Derived.Test.YtohdfohnajifaabWhole
import Derived.ProofKit
import Derived.OpenShut
import Derived.Below
import Derived.JoinedCond
import Derived.Lib.SmallJoins
import Derived.Deep.Slices
import Derived.Deep.Strs
namespace Go.Proofs.Ytohdfohnajifaab
open Go.ChangeShapes Go.WideShapes Go.ChangeAt Go.RowKit Go.Joins Go.Deep

theorem ownWholeRow : ownKnob Try.prog.godebug = none := by kernel_rfl
theorem laidOutWholeRow : laidOutB Try.prog = true := by kernel_rfl
theorem cellsPage : Try.prog.cellsOf 57 = 3 := by kernel_rfl
theorem cellsStr : Try.prog.cellsOf 9 = 1 := by kernel_rfl
theorem cell_lt {W : World} {b o : Nat} {v : Value} (h : W.cell? ⟨b, o, none⟩ = some v) : b < W.heap.size := by
  rcases Nat.lt_or_ge b W.heap.size with h' | h'
  · exact h'
  · simp [World.cell?, Array.getElem?_eq_none h'] at h
theorem bulk_app {H : Type} (l r : List (DataW H)) : Rows.uptoBulkAll (l ++ r) = Rows.uptoBulkAll l + Rows.uptoBulkAll r := by
  induction l with
  | nil => simp [Rows.uptoBulkAll]
  | cons x l ih => simp only [List.cons_append, Rows.uptoBulkAll, ih]; omega
theorem bulk_strs {H : Type} (S : Nat → ByteArray) : ∀ n, Rows.uptoBulkAll ((List.range n).map fun i => DataW.lit (H := H) (.string (S i).data.toList)) = len S n + n
  | 0 => rfl
  | n + 1 => by
    rw [List.range_succ, List.map_append, bulk_app, bulk_strs S n]
    have e : (S n).data.toList.length = (S n).size := rfl
    show len S n + n + (((S n).data.toList.length + 1) + 0) = len S n + (S n).size + (n + 1)
    omega
set_option maxRecDepth 100000 in
theorem open_page {H : Type} {enc : TypeId × Value → H} {W : World} {r : Reach} {b0 : Nat} {v : Value} {d : DataW H} {p : List MemPlace} (hv : Value.okWide Try.prog W r b0 57 v) (h : DataW.Trod enc Try.prog W 0 (fun _ => true) true 57 v d p) :
    ∃ K Lk a n cap S, v = .agg #[.int .i64 K, .int .i64 Lk, .slice a n cap] ∧ StA W a n S ∧ len S n + n ≤ Rows.uptoBulk d := by
  obtain ⟨c0, c1, c2, y0, y1, y2, m, rfl, rfl, -, hy0, hy1, hy2⟩ := open_agg3 Try.underlying57 (by kernel_rfl) cellsPage hv h
  obtain ⟨K, e0, -, wk⟩ := DataW.trod_int Try.underlying3 hy0
  obtain ⟨Lk, e1, -, wn⟩ := DataW.trod_int Try.underlying3 hy1
  simp at e0 e1
  subst e0 e1
  rcases open_strs Try.underlying50 Try.underlying9 cellsStr hy2 with ⟨e, hx⟩ | ⟨ad, l, c, q, S, e, _, hl, _, hq, hx, hcell⟩
  · simp at e
    subst e
    exact ⟨K, Lk, none, 0, 0, fun _ => ⟨#[]⟩, rfl, .inl rfl, Nat.zero_le _⟩
  · simp at e
    subst e
    simp only [if_true] at hq
    have hbulk : len S l + l ≤ Rows.uptoBulk (.agg [y0.1, y1.1, y2.1]) := by
      have hd : y2.1 = _ := congrArg Prod.fst hx
      rw [hd]
      simp only [Rows.uptoBulk, Rows.uptoBulkAll, bulk_strs]
      omega
    refine ⟨K, Lk, some ad, l, c, S, rfl, ?_, hbulk⟩
    by_cases h0 : l = 0
    · exact .inl h0
    · obtain ⟨b, off, spot⟩ := ad
      have h1 := (hcell 0 (by omega)).1
      have hspot : spot = none := by simpa [Addr.add] using World.cell?_spot h1
      subst hspot
      rw [Addr.add_lit] at h1
      exact .inr ⟨b, off, rfl, cell_lt h1, fun i hi => by
        have := (hcell i (by omega)).1
        rwa [Addr.add_lit] at this⟩

set_option maxRecDepth 100000 in
theorem contractWhole (H : Type) (enc : TypeId × Value → H) (W : World) (base : Nat) (args : Array Value) (ds gs : List (DataW H)) (before : List MemPlace)
    (hval : ∀ (j : Nat) t v, Try.f8.params[j]? = some t → args[j]? = some v → Value.okWide Try.prog W .any base t v)
    (hW : DataW.Whole enc Try.prog Try.f8.params.toList Rows.pageWholeSpec.vars false W args.toList ds gs before) (hk : Rows.uptoSmall H (ds ++ gs) = true) :
    Calls Try.prog 8 args W fun e W' => ∃ v, e = .returned v ∧ Rows.pageWholeSpec.post enc Try.prog Try.f8 false true false false W args v W' := by
  have hW' := hW
  obtain ⟨p, q, hA0, hV, rfl, _, _⟩ := hW
  have hA : DataW.TrodAll enc Try.prog W 0 (fun _ => true) true Try.f8.params.toList args.toList ds p := hA0
  rw [Try.params8] at hA hval
  obtain ⟨v0, vs0, d0, ds0, p0, q0, hargs, rfl, rfl, h0, r0⟩ := trodAll_cons hA
  obtain ⟨v1, vs1, d1, ds1, p1, q1, rfl, rfl, rfl, h1, r1⟩ := trodAll_cons r0
  obtain ⟨v2, vs2, d2, ds2, p2, q2, rfl, rfl, rfl, h2, r2⟩ := trodAll_cons r1
  obtain ⟨rfl, rfl, rfl⟩ := trodAll_nil r2
  obtain rfl : args = #[v0, v1, v2] := by cases args; simp_all
  obtain ⟨rfl, rfl⟩ := trodVars_none hV
  have lt0 : ∀ x ∈ p0, x.block < W.heap.size := by obtain ⟨m, hm⟩ := h0; exact DataW.trod_lt m _ _ _ hm
  have lt1 : ∀ x ∈ p1, x.block < W.heap.size := by obtain ⟨m, hm⟩ := h1; exact DataW.trod_lt m _ _ _ hm
  have lt2 : ∀ x ∈ p2, x.block < W.heap.size := by obtain ⟨m, hm⟩ := h2; exact DataW.trod_lt m _ _ _ hm
  obtain ⟨K, Lk, a, n, cap, S, rfl, hst, hbulk⟩ := open_page (hval 0 57 v0 rfl rfl) h0
  obtain ⟨x, rfl, wx⟩ : ∃ x, v1 = .int .i64 x ∧ (Lit.int .i64 x).wf = true := by
    obtain ⟨x, rfl, -, -, wx⟩ := open_int Try.underlying3 (hval 1 3 v1 rfl rfl) h1
    exact ⟨x, rfl, wx⟩
  obtain ⟨y, rfl, wy⟩ : ∃ x, v2 = .int .i64 x ∧ (Lit.int .i64 x).wf = true := by
    obtain ⟨x, rfl, -, -, wx⟩ := open_int Try.underlying3 (hval 2 3 v2 rfl rfl) h2
    exact ⟨x, rfl, wx⟩
  have hsum : 4 * n + len S n ≤ 1099511627776 := by
    have hb : Rows.uptoBulkAll [d0, d1, d2] ≤ 1048576 := of_decide_eq_true hk
    simp only [Rows.uptoBulkAll] at hb
    omega
  clear hA0
  refine (cwhole K Lk a n cap S x y W hst hsum (bounds_i64 wx) (bounds_i64 wy)).mono fun e W' ⟨he, bel⟩ => ?_
  subst he
  exact ⟨_, rfl, _, _, _, [], _, [], hW', trodAll_mk1 (shut_bool Try.underlying4 _), (trodAll_cons_mk (Below.trod laidOutWholeRow (by kernel_rfl) (of_decide_eq_true (by kernel_rfl)) h0 bel lt0) (trodAll_cons_mk (Below.trod laidOutWholeRow (by kernel_rfl) (of_decide_eq_true (by kernel_rfl)) h1 bel lt1) (trodAll_cons_mk (Below.trod laidOutWholeRow (by kernel_rfl) (of_decide_eq_true (by kernel_rfl)) h2 bel lt2) trodAll_mk0))), rfl, bel.frame _, fun h => by cases h⟩

set_option maxRecDepth 100000 in
theorem liftedWhole (os : Os) (started : os.Started) (H : Type) (enc : TypeId × Value → H) (F : Stop.Interp) :
    ReturnsInHanded {} Try.checked os 8 .any ((Rows.OpenSpec.upto Rows.pageWholeSpec).pre6 enc Try.prog Try.f8 Rows.pageWholeUptoRow.domain false) (((Rows.OpenSpec.upto Rows.pageWholeSpec).at F).post enc Try.prog Try.f8 false true false false) := by
  refine returnsInHanded_of_cond (C := Try.checked) (s := Rows.OpenSpec.upto Rows.pageWholeSpec) (k := Rows.uptoSmall) rfl ownWholeRow started (by kernel_rfl) Try.func8
    (OpenSpec.witness (enc := enc) (C := Try.checked) (s := Rows.OpenSpec.upto Rows.pageWholeSpec) (k := Rows.uptoSmall) rfl false ⟨#[], #[.agg #[.int .i64 0, .int .i64 0, .slice none 0 0], .int .i64 0, .int .i64 0], []⟩ 8 (by kernel_rfl) (by kernel_rfl) (by kernel_rfl)
      (x := ([.agg [.lit (.int .i64 0), .lit (.int .i64 0), .nil], .lit (.int .i64 0), .lit (.int .i64 0)], [], [])) (by kernel_rfl) rfl (by kernel_rfl)) ?_
  intro W base args ds gs before hval hW _ hk _
  exact contractWhole H enc W base args ds gs before hval hW hk

theorem pageWhole_holds : Rows.PageWholeUptoSaid :=
  OpenClaim.holds_of_cond 8 Try.f8 rfl rfl rfl rfl rfl rfl rfl ⟨rfl, rfl, rfl, rfl, rfl⟩ rfl rfl rfl rfl rfl (by kernel_rfl) Try.func8 (by kernel_rfl)
    (of_decide_eq_true (by kernel_rfl)) (by unfold Func.isWrapper; first | (rw [if_pos (by decide +kernel)]; kernel_rfl) | (rw [if_neg (by decide +kernel)]; exact ⟨rfl, rfl⟩))
    (fun os started H enc _ F => liftedWhole os started H enc F)
#print axioms pageWhole_holds
end Go.Proofs.Ytohdfohnajifaab
