/- A script that comes in as an argument: how it lies in memory. -/
import Derived.Test.YtfjkockcgddgbaaDrsL
import Derived.ProofKit
import Derived.OpenShut
import Derived.ChangeSlices
import Derived.Deep.Slices
import Derived.Deep.Strs
import Derived.SizedLaws
namespace Go.Proofs.Ytfjkockcgddgbaa
open Go.ChangeShapes Go.WideShapes Go.ChangeAt Go.RowKit Go.Deep
theorem cellsAct : Try.prog.cellsOf 31 = 8 := by kernel_rfl
theorem bytesAct : Try.prog.bytesOf 31 = 112 := by kernel_rfl
theorem bytesIntA : Try.prog.bytesOf 3 = 8 := by kernel_rfl
theorem cIntA : Try.prog.cellsOf 3 = 1 := by kernel_rfl
theorem cStrA : Try.prog.cellsOf 9 = 1 := by kernel_rfl
theorem cIntsA : Try.prog.cellsOf 28 = 1 := by kernel_rfl
theorem cTextsA : Try.prog.cellsOf 29 = 1 := by kernel_rfl
theorem cell_ltA {W : World} {b o : Nat} {v : Value} (h : W.cell? ⟨b, o, none⟩ = some v) : b < W.heap.size := by
  rcases Nat.lt_or_ge b W.heap.size with h' | h'
  · exact h'
  · simp [World.cell?, Array.getElem?_eq_none h'] at h
theorem trod8 {H : Type} {enc : TypeId × Value → H} {P : Program} {w : World} {base : Nat} {spare : Nat → Bool} {held : Bool} {t : TypeId} {f0 f1 f2 f3 f4 f5 f6 f7 : Field} {fuel : Nat} {cs : List Value} {x : DataW H × List MemPlace}
    (ht : P.underlying t = some (.struct #[f0, f1, f2, f3, f4, f5, f6, f7])) (h : DataW.trod enc P w base spare held fuel t cs = some x) :
    ∃ y0 y1 y2 y3 y4 y5 y6 y7 n, x.1 = .agg [y0.1, y1.1, y2.1, y3.1, y4.1, y5.1, y6.1, y7.1] ∧ cs.length = P.cellsOf t ∧
      DataW.trod enc P w base spare held n f0.type ((cs.drop f0.offset).take (P.cellsOf f0.type)) = some y0 ∧ DataW.trod enc P w base spare held n f1.type ((cs.drop f1.offset).take (P.cellsOf f1.type)) = some y1 ∧
      DataW.trod enc P w base spare held n f2.type ((cs.drop f2.offset).take (P.cellsOf f2.type)) = some y2 ∧ DataW.trod enc P w base spare held n f3.type ((cs.drop f3.offset).take (P.cellsOf f3.type)) = some y3 ∧
      DataW.trod enc P w base spare held n f4.type ((cs.drop f4.offset).take (P.cellsOf f4.type)) = some y4 ∧ DataW.trod enc P w base spare held n f5.type ((cs.drop f5.offset).take (P.cellsOf f5.type)) = some y5 ∧
      DataW.trod enc P w base spare held n f6.type ((cs.drop f6.offset).take (P.cellsOf f6.type)) = some y6 ∧ DataW.trod enc P w base spare held n f7.type ((cs.drop f7.offset).take (P.cellsOf f7.type)) = some y7 := by
  obtain ⟨xs, n, _, rfl, hl, hlen, hf⟩ := DataW.trod_struct ht h
  match xs, hlen with
  | [y0, y1, y2, y3, y4, y5, y6, y7], _ => exact ⟨y0, y1, y2, y3, y4, y5, y6, y7, n, by simp, hl, by simpa using hf 0 f0 rfl, by simpa using hf 1 f1 rfl, by simpa using hf 2 f2 rfl, by simpa using hf 3 f3 rfl, by simpa using hf 4 f4 rfl, by simpa using hf 5 f5 rfl, by simpa using hf 6 f6 rfl, by simpa using hf 7 f7 rfl⟩
theorem weights_all {H : Type} {P : Program} {e : TypeId} {n : Nat} : ∀ {l : List (DataW H)} {d : DataW H}, d ∈ l → n ∈ d.weights P e → n ∈ DataW.weightsAll P e l
  | x :: l, d, h, hn => by
    simp only [DataW.weightsAll, List.mem_append]
    rcases List.mem_cons.1 h with rfl | h
    · exact .inl hn
    · exact .inr (weights_all h hn)
def act0 : ActD := ⟨0, 0, 0, 0, ⟨#[]⟩, ⟨#[]⟩, none, 0, 0, fun _ => 0, none, 0, 0⟩
set_option maxRecDepth 100000 in
theorem open_acts {H : Type} {enc : TypeId × Value → H} {W : World} {a : Option Addr} {len cap : Nat} {d : DataW H} {p : List MemPlace} (h : DataW.Trod enc Try.prog W 0 (fun _ => true) true 22 (.slice a len cap) d p) (hz : ∀ n ∈ d.weights Try.prog 22, n ≤ reachBytes) :
    (∃ A, liesActs W a len A) ∧ len ≤ cap ∧ (a = none → len = 0 ∧ cap = 0) ∧ len ≤ reachBytes := by
  haveI : Inhabited ActD := ⟨act0⟩
  obtain ⟨fuel, hf⟩ := h
  rcases open_slice Try.underlying22 hf with ⟨hcs, hx⟩ | ⟨ad, l, c, m, n, D, Pl, hcs, _, hl, _, hm, hx, hel⟩
  · simp [Value.cells] at hcs
    obtain ⟨rfl, rfl, rfl⟩ := hcs
    exact ⟨⟨fun _ => act0, .inl rfl⟩, Nat.le_refl _, fun _ => ⟨rfl, rfl⟩, Nat.zero_le _⟩
  · simp [Value.cells] at hcs
    obtain ⟨rfl, rfl, rfl⟩ := hcs
    simp only [if_true] at hm
    simp only [Prod.mk.injEq] at hx
    have hd := hx.1
    have hw : ∀ i, i < len → ∀ q ∈ (D i).weights Try.prog 31, q ≤ reachBytes := fun i hi q hq => by
      refine hz q ?_
      rw [hd]
      simp only [DataW.weights, Try.underlying22]
      exact List.mem_cons_of_mem _ (List.mem_append.2 (.inl (weights_all (List.mem_map.2 ⟨i, List.mem_range.2 hi, rfl⟩) hq)))
    have hlen0 : len ≤ reachBytes := by
      have := hz ((((List.range len).map D).length + ((List.range (m - len)).map fun j => D (len + j)).length) * Try.prog.bytesOf 31) (by
        rw [hd]
        simp only [DataW.weights, Try.underlying22]
        exact List.mem_cons_self ..)
      rw [bytesAct] at this
      simp only [List.length_map, List.length_range] at this
      omega
    have each : ∀ i, i < len → ∃ x : ActD, okAct W W.heap.size x ∧ ∀ j, j < 8 → W.cell? (ad.add (i * 8 + j)) = (actCells x)[j]? := by
      intro i hi
      obtain ⟨cs', h1, h2⟩ := hel i (by omega)
      rw [cellsAct] at h1
      obtain ⟨_, hlen, hcell⟩ := World.cells?_some h1
      obtain ⟨y0, y1, y2, y3, y4, y5, y6, y7, k, e8, _, g0, g1, g2, g3, g4, g5, g6, g7⟩ := trod8 Try.underlying31 h2
      rw [cIntA] at g0 g1 g2 g3
      rw [cStrA] at g4 g5
      rw [cIntsA] at g6
      rw [cTextsA] at g7
      obtain ⟨x0, e0, _, _⟩ := DataW.trod_int Try.underlying3 g0
      obtain ⟨x1, e1, _, _⟩ := DataW.trod_int Try.underlying3 g1
      obtain ⟨x2, e2, _, _⟩ := DataW.trod_int Try.underlying3 g2
      obtain ⟨x3, e3, _, w3⟩ := DataW.trod_int Try.underlying3 g3
      obtain ⟨x4, e4, _, _⟩ := DataW.trod_string Try.underlying9 g4
      obtain ⟨x5, e5, _, _⟩ := DataW.trod_string Try.underlying9 g5
      have q : ∀ j, j < 8 → W.cell? (ad.add (i * 8 + j)) = cs'[j]? := fun j hj => by
        have := hcell j (by omega)
        rw [add_add] at this
        exact this
      obtain ⟨ka, kn, kc, fk, e6, hk1, hk2⟩ : ∃ (ka : Option Addr) (kn kc : Nat) (fk : Nat → Int), (cs'.drop 6).take 1 = [.slice ka kn kc] ∧ kn * 8 ≤ 140737488351232 ∧ (kn = 0 ∨ ∃ b off, ka = some ⟨b, off, none⟩ ∧ b < W.heap.size ∧ ∀ j, j < kn → W.cell? ⟨b, off + j, none⟩ = some (.int .i64 (fk j))) := by
        rcases open_ints Try.underlying28 Try.underlying3 cIntA g6 with ⟨e6, hx6⟩ | ⟨ka, kn, kc, zs, e6, _, hkl, _, hzl, hx6, hkc, _⟩
        · exact ⟨none, 0, 0, fun _ => 0, e6, by omega, .inl rfl⟩
        · simp only [if_true] at hzl
          refine ⟨some ka, kn, kc, fun j => zs.getD j 0, e6, ?_, ?_⟩
          · have := hw i hi (((lits .i64 (zs.take kn) : List (DataW H)).length + (lits .i64 (zs.drop kn) : List (DataW H)).length) * Try.prog.bytesOf 3) (by
              have e8' : D i = _ := e8
              rw [e8']
              simp only [DataW.weights, Try.underlying31]
              refine DataW.weights_mem_each (j := 6) (t := 28) rfl rfl _ ?_
              rw [hx6]
              simp only [DataW.weights, Try.underlying28]
              exact List.mem_cons_self ..)
            rw [bytesIntA] at this
            simp [lits] at this
            unfold reachBytes at this
            omega
          · by_cases h0 : kn = 0
            · exact .inl h0
            · obtain ⟨b, off, spot⟩ := ka
              have h1 := hkc 0 (by omega)
              have hspot : spot = none := by simpa [Addr.add] using World.cell?_spot h1
              subst hspot
              rw [Addr.add_lit] at h1
              exact .inr ⟨b, off, rfl, cell_ltA h1, fun j hj => by
                have := hkc j (by omega)
                rwa [Addr.add_lit] at this⟩
      obtain ⟨ca, cn, cc, e7⟩ : ∃ (ca : Option Addr) (cn cc : Nat), (cs'.drop 7).take 1 = [.slice ca cn cc] := by
        rcases open_strs Try.underlying29 Try.underlying9 cStrA g7 with ⟨e, _⟩ | ⟨a', l', c', _, _, e, _⟩
        · exact ⟨_, _, _, e⟩
        · exact ⟨_, _, _, e⟩
      match cs', hlen with
      | [v0, v1, v2, v3, v4, v5, v6, v7], _ =>
        simp at e0 e1 e2 e3 e4 e5 e6 e7
        subst e0 e1 e2 e3 e4 e5 e6 e7
        exact ⟨⟨x0, x1, x2, x3, x4, x5, ka, kn, kc, fk, ca, cn, cc⟩, ⟨bounds_i64 w3, hk1, hk2⟩, q⟩
    obtain ⟨A, hA⟩ := choose_lt each
    refine ⟨⟨A, ?_⟩, hl, (fun e => by cases e), hlen0⟩
    by_cases h0 : len = 0
    · exact .inl h0
    · right
      obtain ⟨b, off, spot⟩ := ad
      have h1 := (hA 0 (by omega)).2 0 (by decide)
      have h1' : W.cell? ((⟨b, off, spot⟩ : Addr).add 0) = some (.int .i64 (A 0).k) := h1
      have hspot : spot = none := by simpa [Addr.add] using World.cell?_spot h1'
      subst hspot
      rw [Addr.add_lit] at h1'
      refine ⟨b, off, rfl, cell_ltA h1', fun i hi => ⟨(hA i hi).1, fun j hj => ?_⟩⟩
      have := (hA i hi).2 j hj
      rwa [Addr.add_lit] at this
end Go.Proofs.Ytfjkockcgddgbaa
