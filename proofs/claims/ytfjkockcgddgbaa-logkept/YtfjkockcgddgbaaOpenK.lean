/- A script of relstorekeep that comes in as an argument: how it lies in memory. -/
import Derived.Test.YtfjkockcgddgbaaLgkB
import Derived.ProofKit
import Derived.OpenShut
import Derived.ChangeSlices
import Derived.Deep.Slices
import Derived.Deep.Strs
import Derived.SizedLaws
namespace Go.Proofs.Ytfjkockcgddgbaa
open Go.ChangeShapes Go.WideShapes Go.ChangeAt Go.RowKit Go.Deep
theorem cellsK : Try.prog.cellsOf 45 = 6 := by kernel_rfl
theorem bytesK : Try.prog.bytesOf 45 = 64 := by kernel_rfl
theorem bytesIntK : Try.prog.bytesOf 3 = 8 := by kernel_rfl
theorem cIntK : Try.prog.cellsOf 3 = 1 := by kernel_rfl
theorem cStrK : Try.prog.cellsOf 9 = 1 := by kernel_rfl
theorem cell_ltA {W : World} {b o : Nat} {v : Value} (h : W.cell? ⟨b, o, none⟩ = some v) : b < W.heap.size := by
  rcases Nat.lt_or_ge b W.heap.size with h' | h'
  · exact h'
  · simp [World.cell?, Array.getElem?_eq_none h'] at h
theorem trod6 {H : Type} {enc : TypeId × Value → H} {P : Program} {w : World} {base : Nat} {spare : Nat → Bool} {held : Bool} {t : TypeId} {f0 f1 f2 f3 f4 f5 : Field} {fuel : Nat} {cs : List Value} {x : DataW H × List MemPlace}
    (ht : P.underlying t = some (.struct #[f0, f1, f2, f3, f4, f5])) (h : DataW.trod enc P w base spare held fuel t cs = some x) :
    ∃ y0 y1 y2 y3 y4 y5 n, x.1 = .agg [y0.1, y1.1, y2.1, y3.1, y4.1, y5.1] ∧ cs.length = P.cellsOf t ∧
      DataW.trod enc P w base spare held n f0.type ((cs.drop f0.offset).take (P.cellsOf f0.type)) = some y0 ∧ DataW.trod enc P w base spare held n f1.type ((cs.drop f1.offset).take (P.cellsOf f1.type)) = some y1 ∧
      DataW.trod enc P w base spare held n f2.type ((cs.drop f2.offset).take (P.cellsOf f2.type)) = some y2 ∧ DataW.trod enc P w base spare held n f3.type ((cs.drop f3.offset).take (P.cellsOf f3.type)) = some y3 ∧
      DataW.trod enc P w base spare held n f4.type ((cs.drop f4.offset).take (P.cellsOf f4.type)) = some y4 ∧ DataW.trod enc P w base spare held n f5.type ((cs.drop f5.offset).take (P.cellsOf f5.type)) = some y5 := by
  obtain ⟨xs, n, _, rfl, hl, hlen, hf⟩ := DataW.trod_struct ht h
  match xs, hlen with
  | [y0, y1, y2, y3, y4, y5], _ => exact ⟨y0, y1, y2, y3, y4, y5, n, by simp, hl, by simpa using hf 0 f0 rfl, by simpa using hf 1 f1 rfl, by simpa using hf 2 f2 rfl, by simpa using hf 3 f3 rfl, by simpa using hf 4 f4 rfl, by simpa using hf 5 f5 rfl⟩
def act0K : ActK := ⟨0, 0, 0, 0, ⟨#[]⟩, ⟨#[]⟩⟩
set_option maxRecDepth 100000 in
theorem open_actsK {H : Type} {enc : TypeId × Value → H} {W : World} {a : Option Addr} {len cap : Nat} {d : DataW H} {p : List MemPlace} (h : DataW.Trod enc Try.prog W 0 (fun _ => true) true 35 (.slice a len cap) d p) (hz : ∀ n ∈ d.weights Try.prog 35, n ≤ reachBytes) :
    (∃ A, liesK W a len A) ∧ len ≤ cap ∧ (a = none → len = 0 ∧ cap = 0) ∧ len ≤ reachBytes := by
  haveI : Inhabited ActK := ⟨act0K⟩
  obtain ⟨fuel, hf⟩ := h
  rcases open_slice Try.underlying35 hf with ⟨hcs, hx⟩ | ⟨ad, l, c, m, n, D, Pl, hcs, _, hl, _, hm, hx, hel⟩
  · simp [Value.cells] at hcs
    obtain ⟨rfl, rfl, rfl⟩ := hcs
    exact ⟨⟨fun _ => act0K, .inl rfl⟩, Nat.le_refl _, fun _ => ⟨rfl, rfl⟩, Nat.zero_le _⟩
  · simp [Value.cells] at hcs
    obtain ⟨rfl, rfl, rfl⟩ := hcs
    simp only [if_true] at hm
    simp only [Prod.mk.injEq] at hx
    have hd := hx.1
    have hlen0 : len ≤ reachBytes := by
      have := hz ((((List.range len).map D).length + ((List.range (m - len)).map fun j => D (len + j)).length) * Try.prog.bytesOf 45) (by
        rw [hd]
        simp only [DataW.weights, Try.underlying35]
        exact List.mem_cons_self ..)
      rw [bytesK] at this
      simp only [List.length_map, List.length_range] at this
      omega
    have each : ∀ i, i < len → ∃ x : ActK, okK x ∧ ∀ j, j < 6 → W.cell? (ad.add (i * 6 + j)) = (actK x)[j]? := by
      intro i hi
      obtain ⟨cs', h1, h2⟩ := hel i (by omega)
      rw [cellsK] at h1
      obtain ⟨_, hlen, hcell⟩ := World.cells?_some h1
      obtain ⟨y0, y1, y2, y3, y4, y5, k, e8, _, g0, g1, g2, g3, g4, g5⟩ := trod6 Try.underlying45 h2
      rw [cIntK] at g0 g1 g2 g3
      rw [cStrK] at g4 g5
      obtain ⟨x0, e0, _, w0⟩ := DataW.trod_int Try.underlying3 g0
      obtain ⟨x1, e1, _, _⟩ := DataW.trod_int Try.underlying3 g1
      obtain ⟨x2, e2, _, _⟩ := DataW.trod_int Try.underlying3 g2
      obtain ⟨x3, e3, _, w3⟩ := DataW.trod_int Try.underlying3 g3
      obtain ⟨x4, e4, _, _⟩ := DataW.trod_string Try.underlying9 g4
      obtain ⟨x5, e5, _, _⟩ := DataW.trod_string Try.underlying9 g5
      have q : ∀ j, j < 6 → W.cell? (ad.add (i * 6 + j)) = cs'[j]? := fun j hj => by
        have := hcell j (by omega)
        rw [add_add] at this
        exact this
      match cs', hlen with
      | [v0, v1, v2, v3, v4, v5], _ =>
        simp at e0 e1 e2 e3 e4 e5
        subst e0 e1 e2 e3 e4 e5
        exact ⟨⟨x0, x1, x2, x3, x4, x5⟩, ⟨bounds_i64 w0, bounds_i64 w3⟩, q⟩
    obtain ⟨A, hA⟩ := choose_lt each
    refine ⟨⟨A, ?_⟩, hl, (fun e => by cases e), hlen0⟩
    by_cases h0 : len = 0
    · exact .inl h0
    · right
      obtain ⟨b, off, spot⟩ := ad
      have h1 := (hA 0 (by omega)).2 0 (by decide)
      have h1' : W.cell? ((⟨b, off, spot⟩ : Addr).add 0) = some (.int .i64 (A 0).k) := h1
      have hspot : spot = none := by simpa [Addr.add] using World.cell?_spot h1'
      subst hspot
      rw [Addr.add_lit] at h1'
      refine ⟨b, off, rfl, cell_ltA h1', fun i hi => ⟨(hA i hi).1, fun j hj => ?_⟩⟩
      have := (hA i hi).2 j hj
      rwa [Addr.add_lit] at this
/- a list of whole numbers -/
theorem open_keep {H : Type} {enc : TypeId × Value → H} {W : World} {a : Option Addr} {len cap : Nat} {d : DataW H} {p : List MemPlace} (h : DataW.Trod enc Try.prog W 0 (fun _ => true) true 28 (.slice a len cap) d p) (hz : ∀ n ∈ d.weights Try.prog 28, n ≤ reachBytes) :
    (∃ fk : Nat → Int, len = 0 ∨ ∃ b off, a = some ⟨b, off, none⟩ ∧ b < W.heap.size ∧ ∀ j, j < len → W.cell? ⟨b, off + j, none⟩ = some (.int .i64 (fk j))) ∧ len ≤ 140737488355328 := by
  obtain ⟨fuel, hf⟩ := h
  rcases open_ints Try.underlying28 Try.underlying3 cIntK hf with ⟨e6, hx6⟩ | ⟨ka, kn, kc, zs, e6, _, hkl, _, hzl, hx6, hkc, _⟩
  · simp [Value.cells] at e6
    obtain ⟨rfl, rfl, rfl⟩ := e6
    exact ⟨⟨fun _ => 0, .inl rfl⟩, by omega⟩
  · simp [Value.cells] at e6
    obtain ⟨rfl, rfl, rfl⟩ := e6
    simp only [if_true] at hzl
    refine ⟨⟨fun j => zs.getD j 0, ?_⟩, ?_⟩
    · by_cases h0 : len = 0
      · exact .inl h0
      · obtain ⟨b, off, spot⟩ := ka
        have h1 := hkc 0 (by omega)
        have hspot : spot = none := by simpa [Addr.add] using World.cell?_spot h1
        subst hspot
        rw [Addr.add_lit] at h1
        exact .inr ⟨b, off, rfl, cell_ltA h1, fun j hj => by
          have := hkc j (by omega)
          rwa [Addr.add_lit] at this⟩
    · have := hz (((lits .i64 (zs.take len) : List (DataW H)).length + (lits .i64 (zs.drop len) : List (DataW H)).length) * Try.prog.bytesOf 3) (by
        simp only [Prod.mk.injEq] at hx6
        rw [hx6.1]
        simp only [DataW.weights, Try.underlying28]
        exact List.mem_cons_self ..)
      rw [bytesIntK] at this
      simp [lits] at this
      unfold reachBytes at this
      omega
end Go.Proofs.Ytfjkockcgddgbaa
