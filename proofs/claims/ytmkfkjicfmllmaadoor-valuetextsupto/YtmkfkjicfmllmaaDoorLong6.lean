/- The contract of relstoreref's times: the product of two long numbers. -/
import Derived.Test.YtmkfkjicfmllmaaDoorLong5
namespace Go.Proofs.YtmkfkjicfmllmaaDoor
open Go.RowKit
attribute [local go_sem ↓] Go.wp_at_zero Go.wp_at_succ

theorem box2_4 (w : World) (t : TypeId) (x0 y0 x1 y1 x2 y2 x3 y3 : Value) :
    Box2 ((((w.alloc (.cells #[x0, y0] t)).alloc (.cells #[x1, y1] t)).alloc (.cells #[x2, y2] t)).alloc (.cells #[x3, y3] t)) w.heap.size t x0 y0 ∧
    Box2 ((((w.alloc (.cells #[x0, y0] t)).alloc (.cells #[x1, y1] t)).alloc (.cells #[x2, y2] t)).alloc (.cells #[x3, y3] t)) (w.heap.size + 2) t x2 y2 ∧
    Box2 ((((w.alloc (.cells #[x0, y0] t)).alloc (.cells #[x1, y1] t)).alloc (.cells #[x2, y2] t)).alloc (.cells #[x3, y3] t)) (w.heap.size + 3) t x3 y3 := by
  refine ⟨(((Box2.new w t x0 y0).alloc _).alloc _).alloc _, ?_, ?_⟩
  · have := (Box2.new ((w.alloc (.cells #[x0, y0] t)).alloc (.cells #[x1, y1] t)) t x2 y2).alloc (.cells #[x3, y3] t)
    simpa using this
  · have := Box2.new (((w.alloc (.cells #[x0, y0] t)).alloc (.cells #[x1, y1] t)).alloc (.cells #[x2, y2] t)) t x3 y3
    simpa using this

set_option maxRecDepth 20000 in
set_option maxHeartbeats 1000000 in
theorem ctimes0 (p q : Bool) (a : Option Addr) (n cap : Nat) (a' : Option Addr) (m cap' : Nat) (f g : Nat → Int) (w : World) (hA : DgA w a n f) (hB : DgA w a' m g) (hn : n ≤ 900000) (hm : m ≤ 5) (hf : valid f n) (hg : valid g m) :
    Calls Tryd.prog 29 #[.agg #[.bool p, .slice a n cap], .agg #[.bool q, .slice a' m cap']] w fun e w' => ∃ v, e = .returned (.agg #[.bool (!(p == q)), v]) ∧ DgS (n + 10) w' v (val f n * val g m) ∧ Below w.heap.size w w' := by
  have HF : Hid (valid f n) := hf
  have HG : Hid (valid g m) := hg
  have HX1 : Hid (∀ W, Below w.heap.size w W → DgA W a n f) := fun W h => hA.below h
  have HX2 : Hid (∀ W, Below w.heap.size w W → DgA W a' m g) := fun W h => hB.below h
  clear hA hB hf hg
  go_enter Tryd.func29, Tryd.ntmps29
  go_wp2
  go_loopw [17] (fun y X => ∃ (i : Nat) (ao : Option Addr) (ko co : Nat) (fo : Nat → Int), y = .int .i64 i ∧ i ≤ m ∧ ko ≤ n + 2 * i ∧ ko ≤ co ∧ Hid (DgA X ao ko fo ∧ valid fo ko ∧ norm fo ko ∧ val fo ko = val f n * val g i) ∧ Hid (Box2 X w.heap.size 45 (.bool p) (.slice a n cap)) ∧ Hid (Box2 X (w.heap.size + 2) 45 (.bool false) (.slice none 0 0)) ∧ Hid (Box2 X (w.heap.size + 3) 45 (.bool (!(p == q))) (.slice ao ko co)) ∧ Hid (Below w.heap.size w X)) (fun y _ => m - (intOf y).toNat)
  case atStart =>
    obtain ⟨b0, b2, b3⟩ := box2_4 w 45 (.bool p) (.slice a n cap) (.bool q) (.slice a' m cap') (.bool false) (.slice none 0 0) (.bool (!(p == q))) (.slice none 0 0)
    exact ⟨0, none, 0, 0, fun _ => 0, rfl, Nat.zero_le _, Nat.zero_le _, Nat.le_refl _, ⟨Or.inl rfl, fun i hi => absurd hi (by omega), Or.inl rfl, by simp [val]⟩, b0, b2, b3, (((((Below.refl _ _).alloc (Nat.le_refl _) _).alloc (by simp) _).alloc (by simp; omega) _).alloc (by simp; omega) _)⟩
  case round =>
    obtain ⟨i, ao, ko, co, fo, rfl, him, hko, hkc, HO, HA, HR, HX, Hb⟩ := hrel
    by_cases h0 : i < m
    · obtain ⟨b, off, rfl, hlt, hcells⟩ : ∃ b off, a' = some ⟨b, off, none⟩ ∧ b < wr.heap.size ∧ ∀ j, j < m → wr.cell? ⟨b, off + j, none⟩ = some (.int .i64 (g j)) := by
        rcases HX2.out _ Hb.out with h | h
        · omega
        · exact h
      have c1 := hcells i h0
      have hgi := HG.out i h0
      have i1 : (i : Int) < (m : Int) := by omega
      clear hcells
      go_upto_region 5 with fail
      have hTT : 0 ≤ g i ∧ g i ≤ 9999 := by omega
      have hs : Hid (val f n * val g (i + 1) = val fo ko + g i * (val f n * pw i)) := by
        have e := HO.out.2.2.2
        show val f n * val g (i + 1) = val fo ko + g i * (val f n * pw i)
        rw [e, val_s, Int.mul_add, ← Int.mul_assoc, ← Int.mul_assoc, Int.mul_comm (val f n) (g i)]
      refine regT w.heap.size i n f fo ao ko co a cap (g i) (by omega) (by omega) (by omega) hTT HX.out HA.out HO.out.1 HO.out.2.1 (HX1.out _ Hb.out) HF.out ?_ rfl rfl rfl rfl rfl (by kernel_rfl) (by kernel_rfl) (by kernel_rfl) (by kernel_rfl) (by kernel_rfl) (by kernel_rfl) (by kernel_rfl) (by kernel_rfl) ?_
      · simp
      intro u22' u23' u24' u25' u26' u27' u28' u29' u30' u31' g1 k1 c1' h1 Y hY l1 l2 l3 l4 l5 l6
      have HO' : Hid (DgA Y g1 k1 h1 ∧ valid h1 k1 ∧ norm h1 k1 ∧ val h1 k1 = val f n * val g (i + 1)) := ⟨l3, l4, l5, by rw [l6]; exact hs.out.symm⟩
      have HA' : Hid (Box2 Y w.heap.size 45 (.bool p) (.slice a n cap)) := HA.out.below hY
      have HR' : Hid (Box2 Y (w.heap.size + 2) 45 (.bool false) (.slice none 0 0)) := HR.out.below hY
      have HX' : Hid (Box2 Y (w.heap.size + 3) 45 (.bool (!(p == q))) (.slice ao ko co)) := HX.out.below hY
      have Hb' : Hid (Below w.heap.size w Y) := Hb.out.trans (hY.mono Hb.out.size)
      clear HO HA HR HX Hb hs hY l3 l4 l5 l6 c1 hlt
      simp only [sets, List.setIfInBounds_toArray, List.set_cons_zero, List.set_cons_succ]
      go_wp2
      go_roundw
      case rel => exact ⟨i + 1, g1, k1, c1', h1, by go_num, by omega, by omega, l2, ⟨HO'.out.1.set HX'.out.cell1 (by simp) _, HO'.out.2⟩, HA'.out.far (by omega) _, HR'.out.far (by omega) _, HX'.out.set _, Hb'.out.setCell (by simp <;> omega) _⟩
      case measure => simp [intOf]; omega
    · obtain rfl : i = m := by omega
      have x0 := HX.out.cell0
      have x1 := HX.out.cell1
      have r0 := HR.out.cell0
      have r1 := HR.out.cell1
      have r2 := HR.out.frozen 0
      have r3 := HR.out.frozen 1
      go_wp2
      have r4 : (wr.setCell ⟨w.heap.size + 2, 0, none⟩ (.bool (!(p == q)))).cell? ⟨w.heap.size + 2, 1, none⟩ = some (.slice none 0 0) := (World.cell?_setCell_other (w := wr) (a := ⟨w.heap.size + 2, 0, none⟩) (b := ⟨w.heap.size + 2, 1, none⟩) (v := .bool (!(p == q))) (by simp)).trans r1
      refine bodyPost_ret (v := .agg #[.bool (!(p == q)), .slice ao ko co]) (by simp [results, Tryd.results29, go_sem, *]) rfl ⟨_, rfl, ⟨ao, ko, co, fo, rfl, by omega, hkc, (HO.out.1.set r0 (by simp) _).set r4 (by simp) _, HO.out.2⟩, (Hb.out.setCell (by simp; omega) _).setCell (by simp; omega) _⟩

theorem ctimes (p q : Bool) (va vb : Value) (x y : Int) (w : World) (hA : DgS 5 w va x) (hB : DgS 5 w vb y) :
    Calls Tryd.prog 29 #[.agg #[.bool p, va], .agg #[.bool q, vb]] w fun e w' => ∃ r v z, e = .returned (.agg #[.bool r, v]) ∧ DgS 20 w' v z ∧ sg r z = sg p x * sg q y ∧ Below w.heap.size w w' := by
  obtain ⟨a, n, cap, f, rfl, hn, -, dA, vf, nf, rfl⟩ := hA
  obtain ⟨a', m, cap', g, rfl, hm, -, dB, vg, ng, rfl⟩ := hB
  refine (ctimes0 p q a n cap a' m cap' f g w dA dB (by omega) hm vf vg).mono ?_
  rintro e w' ⟨v, h1, h2, h3⟩
  exact ⟨_, v, _, h1, h2.mono (by omega), by cases p <;> cases q <;> simp [sg, Int.neg_mul, Int.mul_neg], h3⟩
end Go.Proofs.YtmkfkjicfmllmaaDoor
