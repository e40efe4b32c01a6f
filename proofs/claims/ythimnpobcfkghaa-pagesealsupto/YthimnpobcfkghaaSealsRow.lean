/- PageSeals stands where what it reads is of bulk at most 1,048,576. -/
import Derived.Test.YthimnpobcfkghaaRows
import Derived.Test.YthimnpobcfkghaaSeals
import Derived.ChangeMaps5
import Derived.ProofKit
import Derived.OpenShut
import Derived.Below
import Derived.JoinedCond
import Derived.Lib.SmallJoins
import Derived.Deep.Slices
import Derived.Deep.Strs
namespace Go.Proofs.Ythimnpobcfkghaa
open Go.ChangeMaps (open_string)
open Go.ChangeShapes Go.WideShapes Go.ChangeAt Go.RowKit Go.Joins Go.Deep

theorem ownSealsRow : ownKnob Try.prog.godebug = none := by kernel_rfl
theorem laidOutSealsRow : laidOutB Try.prog = true := by kernel_rfl
theorem cellsPage : Try.prog.cellsOf 45 = 3 := by kernel_rfl
theorem cellsStr : Try.prog.cellsOf 9 = 1 := by kernel_rfl
theorem cell_lt {W : World} {b o : Nat} {v : Value} (h : W.cell? ⟨b, o, none⟩ = some v) : b < W.heap.size := by
  rcases Nat.lt_or_ge b W.heap.size with h' | h'
  · exact h'
  · simp [World.cell?, Array.getElem?_eq_none h'] at h
theorem bulk_app {H : Type} (l r : List (DataW H)) : Rows.uptoBulkAll (l ++ r) = Rows.uptoBulkAll l + Rows.uptoBulkAll r := by
  induction l with
  | nil => simp [Rows.uptoBulkAll]
  | cons x l ih => simp only [List.cons_append, Rows.uptoBulkAll, ih]; omega
theorem bulk_strs {H : Type} (S : Nat → ByteArray) : ∀ n, Rows.uptoBulkAll ((List.range n).map fun i => DataW.lit (H := H) (.string (S i).data.toList)) = len S n + n
  | 0 => rfl
  | n + 1 => by
    rw [List.range_succ, List.map_append, bulk_app, bulk_strs S n]
    have e : (S n).data.toList.length = (S n).size := rfl
    show len S n + n + (((S n).data.toList.length + 1) + 0) = len S n + (S n).size + (n + 1)
    omega
set_option maxRecDepth 100000 in
theorem open_page {H : Type} {enc : TypeId × Value → H} {W : World} {r : Reach} {b0 : Nat} {v : Value} {d : DataW H} {p : List MemPlace} (hv : Value.okWide Try.prog W r b0 45 v) (h : DataW.Trod enc Try.prog W 0 (fun _ => true) true 45 v d p) :
    ∃ K Lk a n cap S, v = .agg #[.int .i64 K, .int .i64 Lk, .slice a n cap] ∧ StA W a n S ∧ len S n + n ≤ Rows.uptoBulk d := by
  obtain ⟨c0, c1, c2, y0, y1, y2, m, rfl, rfl, -, hy0, hy1, hy2⟩ := open_agg3 Try.underlying45 (by kernel_rfl) cellsPage hv h
  obtain ⟨K, e0, -, wk⟩ := DataW.trod_int Try.underlying3 hy0
  obtain ⟨Lk, e1, -, wn⟩ := DataW.trod_int Try.underlying3 hy1
  simp at e0 e1
  subst e0 e1
  rcases open_strs Try.underlying43 Try.underlying9 cellsStr hy2 with ⟨e, hx⟩ | ⟨ad, l, c, q, S, e, _, hl, _, hq, hx, hcell⟩
  · simp at e
    subst e
    exact ⟨K, Lk, none, 0, 0, fun _ => ⟨#[]⟩, rfl, .inl rfl, Nat.zero_le _⟩
  · simp at e
    subst e
    simp only [if_true] at hq
    have hbulk : len S l + l ≤ Rows.uptoBulk (.agg [y0.1, y1.1, y2.1]) := by
      have hd : y2.1 = _ := congrArg Prod.fst hx
      rw [hd]
      simp only [Rows.uptoBulk, Rows.uptoBulkAll, bulk_strs]
      omega
    refine ⟨K, Lk, some ad, l, c, S, rfl, ?_, hbulk⟩
    by_cases h0 : l = 0
    · exact .inl h0
    · obtain ⟨b, off, spot⟩ := ad
      have h1 := (hcell 0 (by omega)).1
      have hspot : spot = none := by simpa [Addr.add] using World.cell?_spot h1
      subst hspot
      rw [Addr.add_lit] at h1
      exact .inr ⟨b, off, rfl, cell_lt h1, fun i hi => by
        have := (hcell i (by omega)).1
        rwa [Addr.add_lit] at this⟩

set_option maxRecDepth 100000 in
theorem contractSeals (H : Type) (enc : TypeId × Value → H) (W : World) (base : Nat) (args : Array Value) (ds gs : List (DataW H)) (before : List MemPlace)
    (hval : ∀ (j : Nat) t v, Try.f6.params[j]? = some t → args[j]? = some v → Value.okWide Try.prog W .any base t v)
    (hW : DataW.Whole enc Try.prog Try.f6.params.toList Rows.pageSealsSpec.vars false W args.toList ds gs before) (hk : Rows.uptoSmall H (ds ++ gs) = true) :
    Calls Try.prog 6 args W fun e W' => ∃ v, e = .returned v ∧ Rows.pageSealsSpec.post enc Try.prog Try.f6 false true false false W args v W' := by
  have hW' := hW
  obtain ⟨p, q, hA0, hV, rfl, _, _⟩ := hW
  have hA : DataW.TrodAll enc Try.prog W 0 (fun _ => true) true Try.f6.params.toList args.toList ds p := hA0
  rw [Try.params6] at hA hval
  obtain ⟨v0, vs0, d0, ds0, p0, q0, hargs, rfl, rfl, h0, r0⟩ := trodAll_cons hA
  obtain ⟨v1, vs1, d1, ds1, p1, q1, rfl, rfl, rfl, h1, r1⟩ := trodAll_cons r0
  obtain ⟨rfl, rfl, rfl⟩ := trodAll_nil r1
  obtain rfl : args = #[v0, v1] := by cases args; simp_all
  obtain ⟨rfl, rfl⟩ := trodVars_none hV
  have lt0 : ∀ x ∈ p0, x.block < W.heap.size := by obtain ⟨m, hm⟩ := h0; exact DataW.trod_lt m _ _ _ hm
  have lt1 : ∀ x ∈ p1, x.block < W.heap.size := by obtain ⟨m, hm⟩ := h1; exact DataW.trod_lt m _ _ _ hm
  obtain ⟨K, Lk, a, n, cap, S, rfl, hst, hbulk⟩ := open_page (hval 0 45 v0 rfl rfl) h0
  obtain ⟨s, rfl, hs⟩ : ∃ s : ByteArray, v1 = .string s ∧ d1 = .lit (.string s.data.toList) := by
    obtain ⟨s, rfl, hd, -, ws⟩ := open_string Try.underlying9 (hval 1 9 v1 rfl rfl) h1
    exact ⟨s, rfl, hd⟩
  have hsum : len S n + n ≤ 1048576 ∧ s.size ≤ 1048576 := by
    have hb : Rows.uptoBulkAll [d0, d1] ≤ 1048576 := of_decide_eq_true hk
    have e : Rows.uptoBulk d1 = s.data.toList.length + 1 := by rw [hs]; rfl
    have e' : s.data.toList.length = s.size := rfl
    simp only [Rows.uptoBulkAll] at hb
    omega
  clear hA0
  refine (cseals K Lk a n cap S s W hst hsum.1 hsum.2).mono fun e W' ⟨he, bel⟩ => ?_
  subst he
  exact ⟨_, rfl, _, _, _, [], _, [], hW', trodAll_mk1 (shut_bool Try.underlying4 _), (trodAll_cons_mk (Below.trod laidOutSealsRow (by kernel_rfl) (of_decide_eq_true (by kernel_rfl)) h0 bel lt0) (trodAll_cons_mk (Below.trod laidOutSealsRow (by kernel_rfl) (of_decide_eq_true (by kernel_rfl)) h1 bel lt1) trodAll_mk0)), rfl, bel.frame _, fun h => by cases h⟩

set_option maxRecDepth 100000 in
theorem liftedSeals (os : Os) (started : os.Started) (H : Type) (enc : TypeId × Value → H) (F : Stop.Interp) :
    ReturnsInHanded {} Try.checked os 6 .any ((Rows.OpenSpec.upto Rows.pageSealsSpec).pre6 enc Try.prog Try.f6 Rows.pageSealsUptoRow.domain false) (((Rows.OpenSpec.upto Rows.pageSealsSpec).at F).post enc Try.prog Try.f6 false true false false) := by
  refine returnsInHanded_of_cond (C := Try.checked) (s := Rows.OpenSpec.upto Rows.pageSealsSpec) (k := Rows.uptoSmall) rfl ownSealsRow started (by kernel_rfl) Try.func6
    (OpenSpec.witness (enc := enc) (C := Try.checked) (s := Rows.OpenSpec.upto Rows.pageSealsSpec) (k := Rows.uptoSmall) rfl false ⟨#[], #[.agg #[.int .i64 0, .int .i64 0, .slice none 0 0], .string .empty], []⟩ 8 (by kernel_rfl) (by kernel_rfl) (by kernel_rfl)
      (x := ([.agg [.lit (.int .i64 0), .lit (.int .i64 0), .nil], .lit (.string [])], [], [])) (by kernel_rfl) rfl (by kernel_rfl)) ?_
  intro W base args ds gs before hval hW _ hk _
  exact contractSeals H enc W base args ds gs before hval hW hk

theorem pageSeals_holds : Rows.PageSealsUptoSaid :=
  OpenClaim.holds_of_cond 6 Try.f6 rfl rfl rfl rfl rfl rfl rfl ⟨rfl, rfl, rfl, rfl, rfl⟩ rfl rfl rfl rfl rfl (by kernel_rfl) Try.func6 (by kernel_rfl)
    (of_decide_eq_true (by kernel_rfl)) (by unfold Func.isWrapper; first | (rw [if_pos (by decide +kernel)]; kernel_rfl) | (rw [if_neg (by decide +kernel)]; exact ⟨rfl, rfl⟩))
    (fun os started H enc _ F => liftedSeals os started H enc F)
#print axioms pageSeals_holds
end Go.Proofs.Ythimnpobcfkghaa
