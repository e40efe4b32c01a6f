/- The contract of relstoreref's plus: the sum of two long numbers. -/
import Derived.Test.YtmkfkjicfmllmaaDoorLong3
import Derived.Deep.RegionWith
namespace Go.Proofs.YtmkfkjicfmllmaaDoor
open Go.RowKit
attribute [local go_sem ↓] Go.wp_at_zero Go.wp_at_succ

/- a number with its sign -/
def sg (m : Bool) (x : Int) : Int := if m then -x else x
theorem DgS.below {K : Nat} {w X : World} {v : Value} {x : Int} (h : DgS K w v x) (hb : Below w.heap.size w X) : DgS K X v x := by
  obtain ⟨a, k, cap, f, h1, h2, h3, h4, h5⟩ := h
  exact ⟨a, k, cap, f, h1, h2, h3, h4.below hb, h5⟩
theorem DgS.nn {K : Nat} {w : World} {v : Value} {x : Int} (h : DgS K w v x) : 0 ≤ x := by
  obtain ⟨a, k, cap, f, h1, h2, h3, h4, h5, h6, rfl⟩ := h
  exact (val_bound h5).1
theorem DgS.wide {K K' : Nat} {w : World} {v : Value} {x : Int} (h : DgS K w v x) (hk : K ≤ K') : DgS K' w v x := by
  obtain ⟨a, k, cap, f, h1, h2, h3⟩ := h
  exact ⟨a, k, cap, f, h1, by omega, h3⟩
/- a cell that is no number is written: the digits stay -/
theorem DgA.set {w : World} {a : Option Addr} {n : Nat} {f : Nat → Int} (h : DgA w a n f) {A o : Nat} {u : Value} (hc : w.cell? ⟨A, o, none⟩ = some u) (hu : ∀ x, u ≠ .int .i64 x) (y : Value) : DgA (w.setCell ⟨A, o, none⟩ y) a n f := by
  rcases h with h | ⟨b, off, e, hlt, h⟩
  · exact Or.inl h
  · refine Or.inr ⟨b, off, e, by simpa using hlt, fun i hi => ?_⟩
    rw [World.cell?_setCell_other]
    · exact h i hi
    · intro e1
      rw [e1, h i hi] at hc
      exact hu _ (Option.some.inj hc).symm

set_option maxRecDepth 20000 in
set_option maxHeartbeats 1000000 in
theorem cplus_same (p : Bool) (a : Option Addr) (n cap : Nat) (a' : Option Addr) (m cap' : Nat) (f g : Nat → Int) (w : World) (hA : DgA w a n f) (hB : DgA w a' m g) (hn : n ≤ 900000) (hm : m ≤ 900000) (hf : valid f n) (hg : valid g m) :
    Calls Tryd.prog 31 #[.agg #[.bool p, .slice a n cap], .agg #[.bool p, .slice a' m cap']] w fun e w' => ∃ v, e = .returned (.agg #[.bool p, v]) ∧ DgS (max n m + 1) w' v (val f n + val g m) ∧ Below w.heap.size w w' := by
  have HF : Hid (valid f n) := hf
  have HG : Hid (valid g m) := hg
  skip
  have hpp : (p == p) = true := by cases p <;> rfl
  have HX1 : Hid (∀ W, Below w.heap.size w W → DgA W a n f) := fun W h => hA.below h
  have HX2 : Hid (∀ W, Below w.heap.size w W → DgA W a' m g) := fun W h => hB.below h
  clear hA hB hf hg
  go_enter Tryd.func31, Tryd.ntmps31
  go_wp2
  go_region_with (go_at_call 37; refine (cjoint _ _ _ _ _ _ _ f g _ ?_ ?_ ?_ ?_ HF.out HG.out ?_).mono ?_; (exact HX1.out _ (((((Below.refl _ _).alloc (Nat.le_refl _) _).alloc (by simp) _).alloc (by simp; omega) _).drew)); (exact HX2.out _ (((((Below.refl _ _).alloc (Nat.le_refl _) _).alloc (by simp) _).alloc (by simp; omega) _).drew)); (omega); (omega); (exact Or.inr (by omega)); rintro e w1 ⟨a1, k1, cap1, h1, rfl, l1, l2, l3, l4, l5, l6, hb1⟩; obtain ⟨hc1, hf1⟩ := bcell hb1; have za1 : w.heap.size < w1.heap.size := (by have := hb1.size; (try simp at this); omega); have zb1 : w.heap.size + 1 < w1.heap.size := (by have := hb1.size; (try simp at this); omega); have zc1 : w.heap.size + 1 + 1 < w1.heap.size := (by have := hb1.size; (try simp at this); omega))
  all_goals
    have HD : Hid (DgA w1 a1 k1 h1) := l3
    have HV : Hid (valid h1 k1 ∧ norm h1 k1 ∧ val h1 k1 = val f n + val g m) := ⟨l4, l5, by rw [l6]; omega⟩
    have HB1 : Hid (Below w.heap.size w w1) := (((((Below.refl _ _).alloc (Nat.le_refl _) _).alloc (by simp) _).alloc (by simp; omega) _).drew).trans (hb1.mono (((((Below.refl _ _).alloc (Nat.le_refl _) _).alloc (by simp) _).alloc (by simp; omega) _).drew).size)
    have hz0 : w1.cell? ⟨w.heap.size + 1 + 1, 0, none⟩ = some (.bool false) := by rw [hc1 _ _ (by simp)]; go_simp
    have hz1 : w1.cell? ⟨w.heap.size + 1 + 1, 1, none⟩ = some (.slice none 0 0) := by rw [hc1 _ _ (by simp)]; go_simp
    have hz2 : (w1.setCell ⟨w.heap.size + 1 + 1, 0, none⟩ (.bool p)).cell? ⟨w.heap.size + 1 + 1, 1, none⟩ = some (.slice none 0 0) := (World.cell?_setCell_other (w := w1) (a := ⟨w.heap.size + 1 + 1, 0, none⟩) (b := ⟨w.heap.size + 1 + 1, 1, none⟩) (v := .bool p) (by simp)).trans hz1
    clear l3 l4 l5 l6 hb1
    go_wp2
    refine bodyPost_ret (v := .agg #[.bool p, .slice a1 k1 cap1]) (by simp [results, Tryd.results31, go_sem, *]) rfl ⟨_, rfl, ⟨a1, k1, cap1, h1, rfl, by omega, l2, (HD.out.set hz0 (by simp) _).set hz2 (by simp) _, HV.out⟩, (HB1.out.setCell (by simp <;> omega) _).setCell (by simp <;> omega) _⟩

set_option maxRecDepth 20000 in
set_option maxHeartbeats 1000000 in
theorem cplus_more (p : Bool) (a : Option Addr) (n cap : Nat) (a' : Option Addr) (m cap' : Nat) (f g : Nat → Int) (w : World) (hA : DgA w a n f) (hB : DgA w a' m g) (hn : n ≤ 20) (hm : m ≤ 20) (hf : valid f n) (hg : valid g m) (nf : norm f n) (ng : norm g m) (hlt : val f n < val g m) :
    Calls Tryd.prog 31 #[.agg #[.bool p, .slice a n cap], .agg #[.bool (!p), .slice a' m cap']] w fun e w' => ∃ v, e = .returned (.agg #[.bool (!p), v]) ∧ DgS 21 w' v (val g m - val f n) ∧ Below w.heap.size w w' := by
  have HF : Hid (valid f n) := hf
  have HG : Hid (valid g m) := hg
  have HN : Hid (norm f n ∧ norm g m) := ⟨nf, ng⟩
  have HL : Hid (val f n < val g m) := hlt
  have HE : Hid (decide (val f n < val g m) = true) := decide_eq_true hlt
  clear nf ng hlt
  have hpp : (p == !p) = false := by cases p <;> rfl
  have HX1 : Hid (∀ W, Below w.heap.size w W → DgA W a n f) := fun W h => hA.below h
  have HX2 : Hid (∀ W, Below w.heap.size w W → DgA W a' m g) := fun W h => hB.below h
  clear hA hB hf hg
  go_enter Tryd.func31, Tryd.ntmps31
  go_wp2_with (go_at_call 38; refine (cabove _ _ _ _ _ _ g f _ ?_ ?_ ?_ ?_ HG.out HF.out HN.out.2 HN.out.1).mono ?_; (exact HX2.out _ ((((Below.refl _ _).alloc (Nat.le_refl _) _).alloc (by simp) _).alloc (by simp; omega) _)); (exact HX1.out _ ((((Below.refl _ _).alloc (Nat.le_refl _) _).alloc (by simp) _).alloc (by simp; omega) _)); (omega); (omega); rintro e w0 ⟨rfl, nq, rfl⟩; rw [HE.out])
  go_region_with (go_at_call 37; refine (cjoint _ _ _ _ _ _ _ g f _ ?_ ?_ ?_ ?_ HG.out HF.out ?_).mono ?_; (exact HX2.out _ ((below_drewN ((((Below.refl _ _).alloc (Nat.le_refl _) _).alloc (by simp) _).alloc (by simp; omega) _) _).drew)); (exact HX1.out _ ((below_drewN ((((Below.refl _ _).alloc (Nat.le_refl _) _).alloc (by simp) _).alloc (by simp; omega) _) _).drew)); (omega); (omega); (exact Or.inl ⟨rfl, Int.le_of_lt HL.out⟩); rintro e w1 ⟨a1, k1, cap1, h1, rfl, l1, l2, l3, l4, l5, l6, hb1⟩; obtain ⟨hc1, hf1⟩ := bcell hb1; have za1 : w.heap.size < w1.heap.size := (by have := hb1.size; (try simp at this); omega); have zb1 : w.heap.size + 1 < w1.heap.size := (by have := hb1.size; (try simp at this); omega); have zc1 : w.heap.size + 1 + 1 < w1.heap.size := (by have := hb1.size; (try simp at this); omega))
  all_goals
    have HD : Hid (DgA w1 a1 k1 h1) := l3
    have HV : Hid (valid h1 k1 ∧ norm h1 k1 ∧ val h1 k1 = val g m - val f n) := ⟨l4, l5, by rw [l6]; omega⟩
    have HB1 : Hid (Below w.heap.size w w1) := ((below_drewN ((((Below.refl _ _).alloc (Nat.le_refl _) _).alloc (by simp) _).alloc (by simp; omega) _) _).drew).trans (hb1.mono ((below_drewN ((((Below.refl _ _).alloc (Nat.le_refl _) _).alloc (by simp) _).alloc (by simp; omega) _) _).drew).size)
    have hz0 : w1.cell? ⟨w.heap.size + 1 + 1, 0, none⟩ = some (.bool false) := by rw [hc1 _ _ (by simp)]; go_simp
    have hz1 : w1.cell? ⟨w.heap.size + 1 + 1, 1, none⟩ = some (.slice none 0 0) := by rw [hc1 _ _ (by simp)]; go_simp
    have hz2 : (w1.setCell ⟨w.heap.size + 1 + 1, 0, none⟩ (.bool (!p))).cell? ⟨w.heap.size + 1 + 1, 1, none⟩ = some (.slice none 0 0) := (World.cell?_setCell_other (w := w1) (a := ⟨w.heap.size + 1 + 1, 0, none⟩) (b := ⟨w.heap.size + 1 + 1, 1, none⟩) (v := .bool (!p)) (by simp)).trans hz1
    clear l3 l4 l5 l6 hb1
    go_wp2
    refine bodyPost_ret (v := .agg #[.bool (!p), .slice a1 k1 cap1]) (by simp [results, Tryd.results31, go_sem, *]) rfl ⟨_, rfl, ⟨a1, k1, cap1, h1, rfl, by omega, l2, (HD.out.set hz0 (by simp) _).set hz2 (by simp) _, HV.out⟩, (HB1.out.setCell (by simp <;> omega) _).setCell (by simp <;> omega) _⟩

set_option maxRecDepth 20000 in
set_option maxHeartbeats 1000000 in
theorem cplus_less (p : Bool) (a : Option Addr) (n cap : Nat) (a' : Option Addr) (m cap' : Nat) (f g : Nat → Int) (w : World) (hA : DgA w a n f) (hB : DgA w a' m g) (hn : n ≤ 20) (hm : m ≤ 20) (hf : valid f n) (hg : valid g m) (nf : norm f n) (ng : norm g m) (hlt : val g m ≤ val f n) :
    Calls Tryd.prog 31 #[.agg #[.bool p, .slice a n cap], .agg #[.bool (!p), .slice a' m cap']] w fun e w' => ∃ v, e = .returned (.agg #[.bool p, v]) ∧ DgS 21 w' v (val f n - val g m) ∧ Below w.heap.size w w' := by
  have HF : Hid (valid f n) := hf
  have HG : Hid (valid g m) := hg
  have HN : Hid (norm f n ∧ norm g m) := ⟨nf, ng⟩
  have HL : Hid (val g m ≤ val f n) := hlt
  have HE : Hid (decide (val f n < val g m) = false) := decide_eq_false (by omega)
  clear nf ng hlt
  have hpp : (p == !p) = false := by cases p <;> rfl
  have HX1 : Hid (∀ W, Below w.heap.size w W → DgA W a n f) := fun W h => hA.below h
  have HX2 : Hid (∀ W, Below w.heap.size w W → DgA W a' m g) := fun W h => hB.below h
  clear hA hB hf hg
  go_enter Tryd.func31, Tryd.ntmps31
  go_wp2_with (go_at_call 38; refine (cabove _ _ _ _ _ _ g f _ ?_ ?_ ?_ ?_ HG.out HF.out HN.out.2 HN.out.1).mono ?_; (exact HX2.out _ ((((Below.refl _ _).alloc (Nat.le_refl _) _).alloc (by simp) _).alloc (by simp; omega) _)); (exact HX1.out _ ((((Below.refl _ _).alloc (Nat.le_refl _) _).alloc (by simp) _).alloc (by simp; omega) _)); (omega); (omega); rintro e w0 ⟨rfl, nq, rfl⟩; rw [HE.out])
  go_region_with (go_at_call 37; refine (cjoint _ _ _ _ _ _ _ f g _ ?_ ?_ ?_ ?_ HF.out HG.out ?_).mono ?_; (exact HX1.out _ ((below_drewN ((((Below.refl _ _).alloc (Nat.le_refl _) _).alloc (by simp) _).alloc (by simp; omega) _) _).drew)); (exact HX2.out _ ((below_drewN ((((Below.refl _ _).alloc (Nat.le_refl _) _).alloc (by simp) _).alloc (by simp; omega) _) _).drew)); (omega); (omega); (exact Or.inl ⟨rfl, HL.out⟩); rintro e w1 ⟨a1, k1, cap1, h1, rfl, l1, l2, l3, l4, l5, l6, hb1⟩; obtain ⟨hc1, hf1⟩ := bcell hb1; have za1 : w.heap.size < w1.heap.size := (by have := hb1.size; (try simp at this); omega); have zb1 : w.heap.size + 1 < w1.heap.size := (by have := hb1.size; (try simp at this); omega); have zc1 : w.heap.size + 1 + 1 < w1.heap.size := (by have := hb1.size; (try simp at this); omega))
  all_goals
    have HD : Hid (DgA w1 a1 k1 h1) := l3
    have HV : Hid (valid h1 k1 ∧ norm h1 k1 ∧ val h1 k1 = val f n - val g m) := ⟨l4, l5, by rw [l6]; omega⟩
    have HB1 : Hid (Below w.heap.size w w1) := ((below_drewN ((((Below.refl _ _).alloc (Nat.le_refl _) _).alloc (by simp) _).alloc (by simp; omega) _) _).drew).trans (hb1.mono ((below_drewN ((((Below.refl _ _).alloc (Nat.le_refl _) _).alloc (by simp) _).alloc (by simp; omega) _) _).drew).size)
    have hz0 : w1.cell? ⟨w.heap.size + 1 + 1, 0, none⟩ = some (.bool false) := by rw [hc1 _ _ (by simp)]; go_simp
    have hz1 : w1.cell? ⟨w.heap.size + 1 + 1, 1, none⟩ = some (.slice none 0 0) := by rw [hc1 _ _ (by simp)]; go_simp
    have hz2 : (w1.setCell ⟨w.heap.size + 1 + 1, 0, none⟩ (.bool p)).cell? ⟨w.heap.size + 1 + 1, 1, none⟩ = some (.slice none 0 0) := (World.cell?_setCell_other (w := w1) (a := ⟨w.heap.size + 1 + 1, 0, none⟩) (b := ⟨w.heap.size + 1 + 1, 1, none⟩) (v := .bool p) (by simp)).trans hz1
    clear l3 l4 l5 l6 hb1
    go_wp2
    refine bodyPost_ret (v := .agg #[.bool p, .slice a1 k1 cap1]) (by simp [results, Tryd.results31, go_sem, *]) rfl ⟨_, rfl, ⟨a1, k1, cap1, h1, rfl, by omega, l2, (HD.out.set hz0 (by simp) _).set hz2 (by simp) _, HV.out⟩, (HB1.out.setCell (by simp <;> omega) _).setCell (by simp <;> omega) _⟩

theorem cplus (p q : Bool) (va vb : Value) (x y : Int) (w : World) (hA : DgS 20 w va x) (hB : DgS 20 w vb y) :
    Calls Tryd.prog 31 #[.agg #[.bool p, va], .agg #[.bool q, vb]] w fun e w' => ∃ r v z, e = .returned (.agg #[.bool r, v]) ∧ DgS 21 w' v z ∧ sg r z = sg p x + sg q y ∧ Below w.heap.size w w' := by
  obtain ⟨a, n, cap, f, rfl, hn, -, dA, vf, nf, rfl⟩ := hA
  obtain ⟨a', m, cap', g, rfl, hm, -, dB, vg, ng, rfl⟩ := hB
  by_cases e : q = p
  · subst e
    refine (cplus_same q a n cap a' m cap' f g w dA dB (by omega) (by omega) vf vg).mono ?_
    rintro e w' ⟨v, h1, h2, h3⟩
    exact ⟨q, v, _, h1, h2.mono (by omega), by cases q <;> simp [sg] <;> omega, h3⟩
  · have e' : q = !p := by cases p <;> cases q <;> simp_all
    subst e'
    rcases Int.lt_or_le (val f n) (val g m) with hl | hl
    · refine (cplus_more p a n cap a' m cap' f g w dA dB hn hm vf vg nf ng hl).mono ?_
      rintro e w' ⟨v, h1, h2, h3⟩
      exact ⟨_, v, _, h1, h2, by cases p <;> simp [sg] <;> omega, h3⟩
    · refine (cplus_less p a n cap a' m cap' f g w dA dB hn hm vf vg nf ng hl).mono ?_
      rintro e w' ⟨v, h1, h2, h3⟩
      exact ⟨_, v, _, h1, h2, by cases p <;> simp [sg] <;> omega, h3⟩
end Go.Proofs.YtmkfkjicfmllmaaDoor
