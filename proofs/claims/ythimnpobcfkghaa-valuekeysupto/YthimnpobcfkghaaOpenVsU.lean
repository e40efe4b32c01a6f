/- A list of values that comes in as an argument: how it lies in memory; its numbers fit; its bulk. -/
import Derived.Test.YthimnpobcfkghaaRows
import Derived.Test.YthimnpobcfkghaaKeyP
import Derived.ProofKit
import Derived.OpenShut
import Derived.Deep.Slices
import Derived.Deep.Strs
namespace Go.Proofs.Ythimnpobcfkghaa
open Go.ChangeShapes Go.WideShapes Go.ChangeAt Go.RowKit Go.Deep

theorem cellsVsU : Try.prog.cellsOf 42 = 3 := by kernel_rfl
theorem cIntU : Try.prog.cellsOf 3 = 1 := by kernel_rfl
theorem cI64U : Try.prog.cellsOf 2 = 1 := by kernel_rfl
theorem cStrU : Try.prog.cellsOf 9 = 1 := by kernel_rfl

theorem bulk_appU {H : Type} (l r : List (DataW H)) : Rows.uptoBulkAll (l ++ r) = Rows.uptoBulkAll l + Rows.uptoBulkAll r := by
  induction l with
  | nil => simp [Rows.uptoBulkAll]
  | cons x l ih => simp only [List.cons_append, Rows.uptoBulkAll, ih]; omega
theorem open_vsU {H : Type} {enc : TypeId × Value → H} {W : World} {a : Option Addr} {len cap : Nat} {d : DataW H} {p : List MemPlace} (h : DataW.Trod enc Try.prog W 0 (fun _ => true) true 22 (.slice a len cap) d p) :
    ∃ K N S, LiesA W a len K N S ∧ (∀ i, i < len → (Lit.int .i64 (N i)).wf = true) ∧ lenS S len + len ≤ Rows.uptoBulk d := by
  obtain ⟨fuel, hf⟩ := h
  rcases open_slice Try.underlying22 hf with ⟨hcs, hx⟩ | ⟨ad, l, c, m, n, D, Pl, hcs, _, hl, _, hm, hx, hel⟩
  · simp [Value.cells] at hcs
    obtain ⟨rfl, rfl, rfl⟩ := hcs
    simp only [Prod.mk.injEq] at hx
    exact ⟨fun _ => 0, fun _ => 0, fun _ => ⟨#[]⟩, Or.inl rfl, fun i hi => absurd hi (by omega), Nat.zero_le _⟩
  · simp [Value.cells] at hcs
    obtain ⟨rfl, rfl, rfl⟩ := hcs
    simp only [if_true] at hm
    simp only [Prod.mk.injEq] at hx
    have each : ∀ i, i < len → ∃ q : Int × Int × ByteArray, W.cell? (ad.add (i * 3)) = some (.int .i64 q.1) ∧ W.cell? (ad.add (i * 3 + 1)) = some (.int .i64 q.2.1) ∧ W.cell? (ad.add (i * 3 + 2)) = some (.string q.2.2) ∧ (Lit.int .i64 q.2.1).wf = true ∧ q.2.2.size + 1 ≤ Rows.uptoBulk (D i) := by
      intro i hi
      obtain ⟨cs', h1, h2⟩ := hel i (by omega)
      rw [cellsVsU] at h1
      obtain ⟨_, hlen, hcell⟩ := World.cells?_some h1
      obtain ⟨y0, y1, y2, k, hD, _, g0, g1, g2⟩ := trod_struct3 Try.underlying42 h2
      rw [cIntU] at g0
      rw [cI64U] at g1
      rw [cStrU] at g2
      obtain ⟨x0, e0, _, _⟩ := DataW.trod_int Try.underlying3 g0
      obtain ⟨x1, e1, _, wx⟩ := DataW.trod_int Try.underlying2 g1
      obtain ⟨x2, e2, h22, _⟩ := DataW.trod_string Try.underlying9 g2
      have q0 := hcell 0 (by omega)
      have q1 := hcell 1 (by omega)
      have q2 := hcell 2 (by omega)
      rw [add_add] at q0 q1 q2
      match cs', hlen with
      | [v0, v1, v2], _ =>
        simp at e0 e1 e2 q0 q1 q2
        subst e0 e1 e2
        refine ⟨(x0, x1, x2), q0, q1, q2, wx, ?_⟩
        have hD1 : D i = .agg [y0.1, y1.1, y2.1] := congrArg Prod.fst hD
        have h23 : y2.1 = .lit (.string x2.data.toList) := congrArg Prod.fst h22
        rw [hD1, h23]
        have e : x2.data.toList.length = x2.size := rfl
        simp only [Rows.uptoBulk, Rows.uptoBulkAll]
        omega
    obtain ⟨q, hq⟩ := choose_lt each
    refine ⟨fun i => (q i).1, fun i => (q i).2.1, fun i => (q i).2.2, ?_, fun i hi => (hq i hi).2.2.2.1, ?_⟩
    · by_cases h0 : len = 0
      · exact Or.inl h0
      · right
        obtain ⟨b, off, spot⟩ := ad
        have hspot : spot = none := by
          have := (hq 0 (by omega)).1
          rw [Nat.zero_mul] at this
          simpa [Addr.add] using World.cell?_spot this
        subst hspot
        refine ⟨b, off, rfl, fun i hi => ?_⟩
        obtain ⟨c0, c1, c2, -, -⟩ := hq i hi
        rw [add_plain] at c0 c1 c2
        exact ⟨c0, by rw [Nat.add_assoc]; exact c1, by rw [Nat.add_assoc]; exact c2⟩
    · rw [hx.1]
      have hb : ∀ n, (∀ i, i < n → i < len) → lenS (fun i => (q i).2.2) n + n ≤ Rows.uptoBulkAll ((List.range n).map D) := by
        intro n
        induction n with
        | zero => intro _; exact Nat.zero_le _
        | succ n ih =>
          intro h
          rw [List.range_succ, List.map_append, bulk_appU]
          have h1 := ih (fun i hi => h i (by omega))
          have h2 := (hq n (h n (by omega))).2.2.2.2
          show lenS (fun i => (q i).2.2) n + (q n).2.2.size + (n + 1) ≤ _ + (Rows.uptoBulk (D n) + 0)
          omega
      have := hb len (fun i hi => hi)
      show _ ≤ Rows.uptoBulkAll ((List.range len).map D) + _ + 1
      omega
end Go.Proofs.Ythimnpobcfkghaa
