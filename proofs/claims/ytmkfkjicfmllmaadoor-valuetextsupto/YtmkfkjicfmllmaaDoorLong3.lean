/- Boxes of two cells; the contract of relstoreref.longOf: the digits of a number of 64 bits. -/
import Derived.Test.YtmkfkjicfmllmaaDoorLong2
import Derived.Test.YtmkfkjicfmllmaaDoorArith
import Derived.RangeFuncBox
namespace Go.Proofs.YtmkfkjicfmllmaaDoor
open Go.RowKit
attribute [local go_sem ↓] Go.wp_at_zero Go.wp_at_succ

/- a box of two cells: one long number -/
def Box2 (W : World) (B : Nat) (t : TypeId) (x y : Value) : Prop := W.heap[B]? = some (.cells #[x, y] t (0, 0))
theorem Box2.lt {W : World} {B : Nat} {t : TypeId} {x y : Value} (h : Box2 W B t x y) : B < W.heap.size := (Array.getElem?_eq_some_iff.1 h).1
theorem Box2.cell0 {W : World} {B : Nat} {t : TypeId} {x y : Value} (h : Box2 W B t x y) : W.cell? ⟨B, 0, none⟩ = some x := by simp [World.cell?, show W.heap[B]? = _ from h]
theorem Box2.cell1 {W : World} {B : Nat} {t : TypeId} {x y : Value} (h : Box2 W B t x y) : W.cell? ⟨B, 1, none⟩ = some y := by simp [World.cell?, show W.heap[B]? = _ from h]
theorem Box2.frozen {W : World} {B : Nat} {t : TypeId} {x y : Value} (h : Box2 W B t x y) (o : Nat) : W.frozen? ⟨B, o, none⟩ = false := by simp [World.frozen?, show W.heap[B]? = _ from h]
theorem Box2.new (W : World) (t : TypeId) (x y : Value) : Box2 (W.alloc (.cells #[x, y] t)) W.heap.size t x y := World.alloc_heap_new W _
theorem Box2.kept {W W' : World} {row : Option Nat} {B : Nat} {t : TypeId} {x y : Value} (h : Box2 W B t x y) (hg : W.grownBy W' row) (hne : some B ≠ row) : Box2 W' B t x y := (hg.block B h.lt hne).trans h
theorem Box2.alloc {W : World} {B : Nat} {t : TypeId} {x y : Value} (h : Box2 W B t x y) (o : Obj) : Box2 (W.alloc o) B t x y := h.kept (World.grownBy_alloc W o none) (by simp)
theorem Box2.set {W : World} {B : Nat} {t : TypeId} {x y : Value} (y' : Value) (h : Box2 W B t x y) : Box2 (W.setCell ⟨B, 1, none⟩ y') B t x y' := by
  obtain ⟨hlt, hk⟩ := Array.getElem?_eq_some_iff.1 h
  show (W.heap.modify B _)[B]? = _
  rw [Array.getElem?_eq_getElem (by rw [Array.size_modify]; exact hlt), Array.getElem_modify_self, hk]
  rfl
theorem grown_set (W : World) (b o : Nat) (v : Value) : W.grownBy (W.setCell ⟨b, o, none⟩ v) (some b) :=
  ⟨rfl, rfl, rfl, by simp, fun k _ hk => Below.heap_setCell _ _ _ k (fun e => hk (by rw [e]))⟩
theorem Box2.far {W : World} {B A o : Nat} {t : TypeId} {x y : Value} (h : Box2 W B t x y) (hne : B ≠ A) (v : Value) : Box2 (W.setCell ⟨A, o, none⟩ v) B t x y := h.kept (grown_set W A o v) (by simpa using hne)
theorem Box2.below {W W' : World} {B : Nat} {t : TypeId} {x y : Value} (h : Box2 W B t x y) (hb : Below W.heap.size W W') : Box2 W' B t x y := (hb.block B h.lt).trans h
theorem row_low {w : World} {base : Nat} {e : TypeId} {size : Nat} {v : Value} {n : Nat} {xs : List Value} (h : w.ownsRow base e size v n xs) {b : Nat} (hb : b < base) : some b ≠ v.ownBlock := fun e1 => by
  have := (World.ownsRow.lt h) b e1.symm
  omega

theorem box2_second (w : World) (t : TypeId) (o : Obj) (x : Value × Value) : Box2 ((w.alloc o).alloc (.cells #[x.1, x.2] t)) (w.heap.size + 1) t x.1 x.2 := by
  have := Box2.new (w.alloc o) t x.1 x.2
  simpa using this

/- what the loop keeps: i digits are written, Y is left -/
structure Lo (X : Int) (i : Nat) (Y : Int) (ds : List Int) : Prop where
  len : ds.length = i
  ok : valid (gt ds) i
  nn : 0 ≤ Y
  sum : val (gt ds) i + Y * pw i = X
  top : Y = 0 → norm (gt ds) i
theorem Lo.start {X : Int} (h : 0 ≤ X) : Lo X 0 X [] := ⟨rfl, fun i h => absurd h (by omega), h, by simp [val, pw_0], fun _ => Or.inl rfl⟩
theorem Lo.step {X : Int} {i : Nat} {Y : Int} {ds : List Int} (h : Lo X i Y ds) (h0 : ¬ Y = 0) : Lo X (i + 1) (Y / 10000) (ds ++ [Y % 10000]) := by
  have hl := h.len
  have hn := h.nn
  have e := Int.emod_add_mul_ediv Y 10000
  subst hl
  refine ⟨by simp, valid_app h.ok (by omega), by omega, ?_, fun hz => Or.inr ?_⟩
  · rw [val_app, pw_s]
    have hs := h.sum
    have e2 : Y / 10000 * (10000 * pw ds.length) + Y % 10000 * pw ds.length = Y * pw ds.length := by
      rw [← Int.mul_assoc, ← Int.add_mul]
      congr 1
      omega
    omega
  · rw [Nat.add_sub_cancel, gt_last]; omega
theorem Lo.few {X : Int} {i : Nat} {Y : Int} {ds : List Int} (h : Lo X i Y ds) (hX : X ≤ 9223372036854775808) (h0 : ¬ Y = 0) : i ≤ 4 := by
  rcases Nat.lt_or_ge 4 i with h' | h'
  · exfalso
    have p := pw_mono (show 5 ≤ i by omega)
    have p5 : pw 5 = 100000000000000000000 := by unfold pw; rfl
    have b := (val_bound h.ok).1
    have hn := h.nn
    have s := h.sum
    have : 1 * pw i ≤ Y * pw i := Int.mul_le_mul_of_nonneg_right (by omega) (Int.le_of_lt (pw_pos i))
    omega
  · exact h'

theorem Lo.le {X : Int} {i : Nat} {Y : Int} {ds : List Int} (h : Lo X i Y ds) : Y ≤ X := by
  have b := (val_bound h.ok).1
  have hn := h.nn
  have s := h.sum
  have : Y * 1 ≤ Y * pw i := Int.mul_le_mul_of_nonneg_left (by have := pw_pos i; omega) hn
  omega
theorem Lo.few5 {X : Int} {i : Nat} {ds : List Int} (h : Lo X i 0 ds) (hX : X ≤ 9223372036854775808) : i ≤ 5 := by
  rcases Nat.lt_or_ge 5 i with h' | h'
  · exfalso
    have hl := norm_low h.ok (h.top rfl) (by omega)
    have p := pw_mono (show 5 ≤ i - 1 by omega)
    have p5 : pw 5 = 100000000000000000000 := by unfold pw; rfl
    have s := h.sum
    omega
  · exact h'
/- the slice of digits, a number -/
def DgS (K : Nat) (w : World) (v : Value) (x : Int) : Prop := ∃ a k cap f, v = .slice a k cap ∧ k ≤ K ∧ k ≤ cap ∧ DgA w a k f ∧ valid f k ∧ norm f k ∧ val f k = x
theorem DgS.mono {K K' : Nat} {w : World} {v : Value} {x : Int} (h : DgS K w v x) (hk : K ≤ K') : DgS K' w v x := by
  obtain ⟨a, k, cap, f, e, h1, h2⟩ := h
  exact ⟨a, k, cap, f, e, Nat.le_trans h1 hk, h2⟩
theorem Lo.out {X : Int} {i : Nat} {ds : List Int} {W : World} {base : Nat} {v : Value} (h : Lo X i 0 ds) (ho : W.ownsRow base 3 1 v i (vals ds)) (hi : i ≤ 5) : DgS 5 W v X := by
  have hs := h.sum
  rcases Nat.eq_zero_or_pos i with rfl | hp
  · rcases ho.2 with ⟨rfl, _⟩ | ⟨g, cap, cur, rfl, _, _, hc, _⟩
    · exact ⟨none, 0, 0, gt ds, rfl, by omega, by omega, Or.inl rfl, h.ok, Or.inl rfl, by omega⟩
    · exact ⟨_, 0, cap, gt ds, rfl, by omega, by omega, Or.inl rfl, h.ok, Or.inl rfl, by omega⟩
  · obtain ⟨g, cap, rfl, hc, hd⟩ := dg_own ho hp
    exact ⟨_, i, cap, gt ds, rfl, by omega, hc, hd, h.ok, h.top rfl, by omega⟩
theorem row_set {w : World} {base : Nat} {e : TypeId} {size : Nat} {v : Value} {n : Nat} {xs : List Value} (h : w.ownsRow base e size v n xs) {b : Nat} (hb : b < base) (o : Nat) (u : Value) : (w.setCell ⟨b, o, none⟩ u).ownsRow base e size v n xs :=
  h.kept (grown_set w b o u) (.inr (row_low h hb).symm)
theorem tmod_neg (Z : Int) (h : 0 ≤ Z) : (-Z).tmod 10000 = -(Z % 10000) := by rw [Int.neg_tmod, Int.tmod_eq_emod_of_nonneg h]
theorem tdiv_neg (Z : Int) (h : 0 ≤ Z) : (-Z).tdiv 10000 = -(Z / 10000) := by rw [Int.neg_tdiv, Int.tdiv_eq_ediv_of_nonneg h]

set_option maxRecDepth 20000 in
set_option maxHeartbeats 1000000 in
theorem clongOf_p (x : Int) (w : World) (hx : 0 ≤ x) (hx' : x ≤ 9223372036854775807) :
    Calls Tryd.prog 30 #[.int .i64 x] w fun e w' => ∃ v, e = .returned (.agg #[.bool (decide (x < 0)), v]) ∧ DgS 5 w' v x ∧ Below w.heap.size w w' := by
  obtain ⟨i0, hi, hz0, hz1, hz2⟩ := info_parts infoI
  have hneg : decide (x < 0) = false := decide_eq_false (by omega)
  rw [hneg]
  go_enter Tryd.func30, Tryd.ntmps30
  go_wp2
  go_loopw [0] (fun y X => ∃ (i : Nat) (Y : Int) (ds : List Int) (v : Value), y = .int .i64 Y ∧ Hid (Lo x i Y ds) ∧ Hid (Box2 X w.heap.size 45 (.bool false) (.slice none 0 0)) ∧ Hid (Box2 X (w.heap.size + 1) 45 (.bool false) v) ∧ Hid (X.ownsRow (w.heap.size + 2) 3 1 v i (vals ds)) ∧ Hid (Below w.heap.size w X)) (fun y _ => (intOf y).toNat)
  case atStart => exact ⟨0, x, [], _, rfl, Lo.start (by omega), (Box2.new _ _ _ _).alloc _, box2_second w _ _ (.bool false, .slice none 0 0), World.ownsRow_nil _ _ _ _, (((Below.refl _ _).alloc (Nat.le_refl _) _).alloc (by simp) _)⟩
  case round =>
    obtain ⟨i, Y, ds, v, rfl, HL, HR, HX, HO, Hb⟩ := hrel
    have x0 := HX.out.cell0
    have x1 := HX.out.cell1
    have x2 := HX.out.frozen 1
    have r0 := HR.out.cell0
    have r1 := HR.out.cell1
    have r2 := HR.out.frozen 0
    have r3 := HR.out.frozen 1
    by_cases h0 : Y = 0
    · subst h0
      have n2 : i ≤ 5 := HL.out.few5 (by omega)
      obtain ⟨a, k, cap, f, rfl, -⟩ := HL.out.out HO.out n2
      skip
      go_wp2
      refine bodyPost_ret (v := .agg #[.bool false, .slice a k cap]) (by simp [results, Tryd.results30, go_sem, *]) rfl ⟨_, rfl, HL.out.out (row_set (row_set HO.out (by omega) _ _) (by omega) _ _) n2, (Hb.out.setCell (Nat.le_refl _) _).setCell (Nat.le_refl _) _⟩
    · have n0 : 0 ≤ Y := HL.out.nn
      have n1 : Y ≤ x := HL.out.le
      have n2 : i ≤ 4 := HL.out.few (by omega) h0
      have e1 : Y.tmod 10000 = Y % 10000 := Int.tmod_eq_emod_of_nonneg n0
      have e2 : Y.tdiv 10000 = Y / 10000 := Int.tdiv_eq_ediv_of_nonneg n0
      have HL' : Hid (Lo x (i + 1) (Y / 10000) (ds ++ [Y % 10000])) := HL.out.step h0
      clear HL
      go_wp2_with (at_builtin; go_must (refine wpList_append_lies _ rfl _ _ _ rfl (w.heap.size + 2) 3 i0 (.int .i64 0) 1 8 Tryd.underlying43 hi hz0 hz1 hz2 rfl (by decide) _ i (vals ds) rfl (World.ownsRow.alloc HO.out _) _ 1 1 [.int .i64 (Y % 10000)] rfl rfl ?q1 ?q2 (by decide) ?q3 ?q4 ?q5 _ rfl ?_))
      (try (case q1 => exact cell_one_new _ _ _))
      case q2 => first | (intro u hu; simp at hu; rw [hu]; rfl) | rfl | simp
      case q3 => unfold maxLen; omega
      case q4 => omega
      case q5 => have := HX.out.lt; simp; omega
      intro g1 cap1 w1 hown1 hgrow hat hlt1
      rw [vals_app] at hown1
      have HX1 : Hid (Box2 w1 (w.heap.size + 1) 45 (.bool false) v) := (HX.out.alloc _).kept hgrow (row_low HO.out (by omega))
      have HR1 : Hid (Box2 w1 w.heap.size 45 (.bool false) (.slice none 0 0)) := (HR.out.alloc _).kept hgrow (row_low HO.out (by omega))
      have Hb1 : Hid (Below w.heap.size w w1) := (Below.alloc Hb.out (Below.size Hb.out) _).grown hgrow (by have := Below.size Hb.out; simp; omega) (fun k hk => by have := ((World.ownsRow.lt HO.out) k hk).1; omega)
      have HO1 : Hid (w1.ownsRow (w.heap.size + 2) 3 1 (.slice (some ⟨g1, 0, none⟩) (i + 1) cap1) (i + 1) (vals (ds ++ [Y % 10000]))) := hown1
      clear hown1 hgrow hat hlt1 x0 x1 x2 r0 r1 r2 r3
      have x1 := HX1.out.cell1
      have x2 := HX1.out.frozen 1
      go_wp2
      exact ⟨⟨i + 1, Y / 10000, ds ++ [Y % 10000], _, rfl, HL', HR1.out.far (by omega) _, HX1.out.set _, row_set HO1.out (by omega) _ _, Hb1.out.setCell (Nat.le_succ _) _⟩, by simp [intOf]; omega⟩

set_option maxRecDepth 20000 in
set_option maxHeartbeats 1000000 in
theorem clongOf_n (x : Int) (w : World) (hx : x < 0) (hx' : -9223372036854775808 ≤ x) :
    Calls Tryd.prog 30 #[.int .i64 x] w fun e w' => ∃ v, e = .returned (.agg #[.bool (decide (x < 0)), v]) ∧ DgS 5 w' v (-x) ∧ Below w.heap.size w w' := by
  obtain ⟨i0, hi, hz0, hz1, hz2⟩ := info_parts infoI
  have hneg : decide (x < 0) = true := decide_eq_true (by omega)
  rw [hneg]
  go_enter Tryd.func30, Tryd.ntmps30
  go_wp2
  go_loopw [0] (fun y X => ∃ (i : Nat) (Y : Int) (ds : List Int) (v : Value), y = .int .i64 (-Y) ∧ Hid (Lo (-x) i Y ds) ∧ Hid (Box2 X w.heap.size 45 (.bool false) (.slice none 0 0)) ∧ Hid (Box2 X (w.heap.size + 1) 45 (.bool true) v) ∧ Hid (X.ownsRow (w.heap.size + 2) 3 1 v i (vals ds)) ∧ Hid (Below w.heap.size w X)) (fun y _ => (-(intOf y)).toNat)
  case atStart => exact ⟨0, (-x), [], _, by rw [Int.neg_neg], Lo.start (by omega), (Box2.new _ _ _ _).alloc _, box2_second w _ _ (.bool true, .slice none 0 0), World.ownsRow_nil _ _ _ _, (((Below.refl _ _).alloc (Nat.le_refl _) _).alloc (by simp) _)⟩
  case round =>
    obtain ⟨i, Y, ds, v, rfl, HL, HR, HX, HO, Hb⟩ := hrel
    have x0 := HX.out.cell0
    have x1 := HX.out.cell1
    have x2 := HX.out.frozen 1
    have r0 := HR.out.cell0
    have r1 := HR.out.cell1
    have r2 := HR.out.frozen 0
    have r3 := HR.out.frozen 1
    by_cases h0 : Y = 0
    · subst h0
      have n2 : i ≤ 5 := HL.out.few5 (by omega)
      obtain ⟨a, k, cap, f, rfl, -⟩ := HL.out.out HO.out n2
      rw [Int.neg_zero]
      go_wp2
      refine bodyPost_ret (v := .agg #[.bool true, .slice a k cap]) (by simp [results, Tryd.results30, go_sem, *]) rfl ⟨_, rfl, HL.out.out (row_set (row_set HO.out (by omega) _ _) (by omega) _ _) n2, (Hb.out.setCell (Nat.le_refl _) _).setCell (Nat.le_refl _) _⟩
    · have n0 : 0 ≤ Y := HL.out.nn
      have n1 : Y ≤ (-x) := HL.out.le
      have n2 : i ≤ 4 := HL.out.few (by omega) h0
      have e1 : (-Y).tmod 10000 = -(Y % 10000) := tmod_neg Y n0
      have e2 : (-Y).tdiv 10000 = -(Y / 10000) := tdiv_neg Y n0
      have HL' : Hid (Lo (-x) (i + 1) (Y / 10000) (ds ++ [Y % 10000])) := HL.out.step h0
      clear HL
      have b0 : 0 ≤ Y % 10000 := by omega
      have b1 : Y % 10000 < 10000 := by omega
      have ne0 : (-Y != 0) = true := by simp; omega
      by_cases hz : Y % 10000 = 0
      · rw [hz, Int.neg_zero] at e1
        rw [hz] at HL'
        go_wp2_with (at_builtin; go_must (refine wpList_append_lies _ rfl _ _ _ rfl (w.heap.size + 2) 3 i0 (.int .i64 0) 1 8 Tryd.underlying43 hi hz0 hz1 hz2 rfl (by decide) _ i (vals ds) rfl (World.ownsRow.alloc HO.out _) _ 1 1 [.int .i64 (0)] rfl rfl ?q1 ?q2 (by decide) ?q3 ?q4 ?q5 _ rfl ?_))
        (try (case q1 => exact cell_one_new _ _ _))
        case q2 => first | (intro u hu; simp at hu; rw [hu]; rfl) | rfl | simp
        case q3 => unfold maxLen; omega
        case q4 => omega
        case q5 => have := HX.out.lt; simp; omega
        intro g1 cap1 w1 hown1 hgrow hat hlt1
        rw [vals_app] at hown1
        have HX1 : Hid (Box2 w1 (w.heap.size + 1) 45 (.bool true) v) := (HX.out.alloc _).kept hgrow (row_low HO.out (by omega))
        have HR1 : Hid (Box2 w1 w.heap.size 45 (.bool false) (.slice none 0 0)) := (HR.out.alloc _).kept hgrow (row_low HO.out (by omega))
        have Hb1 : Hid (Below w.heap.size w w1) := (Below.alloc Hb.out (Below.size Hb.out) _).grown hgrow (by have := Below.size Hb.out; simp; omega) (fun k hk => by have := ((World.ownsRow.lt HO.out) k hk).1; omega)
        have HO1 : Hid (w1.ownsRow (w.heap.size + 2) 3 1 (.slice (some ⟨g1, 0, none⟩) (i + 1) cap1) (i + 1) (vals (ds ++ [0]))) := hown1
        clear hown1 hgrow hat hlt1 x0 x1 x2 r0 r1 r2 r3
        have x1 := HX1.out.cell1
        have x2 := HX1.out.frozen 1
        go_wp2
        exact ⟨⟨i + 1, Y / 10000, ds ++ [0], _, rfl, HL', HR1.out.far (by omega) _, HX1.out.set _, row_set HO1.out (by omega) _ _, Hb1.out.setCell (Nat.le_succ _) _⟩, by simp [intOf]; omega⟩
      · have hlt : -(Y % 10000) < 0 := by omega
        go_wp2_with (at_builtin; go_must (refine wpList_append_lies _ rfl _ _ _ rfl (w.heap.size + 2) 3 i0 (.int .i64 0) 1 8 Tryd.underlying43 hi hz0 hz1 hz2 rfl (by decide) _ i (vals ds) rfl (World.ownsRow.alloc HO.out _) _ 1 1 [.int .i64 (Y % 10000)] rfl rfl ?q1 ?q2 (by decide) ?q3 ?q4 ?q5 _ rfl ?_))
        (try (case q1 => exact cell_one_new _ _ _))
        case q2 => first | (intro u hu; simp at hu; rw [hu]; rfl) | rfl | simp
        case q3 => unfold maxLen; omega
        case q4 => omega
        case q5 => have := HX.out.lt; simp; omega
        intro g1 cap1 w1 hown1 hgrow hat hlt1
        rw [vals_app] at hown1
        have HX1 : Hid (Box2 w1 (w.heap.size + 1) 45 (.bool true) v) := (HX.out.alloc _).kept hgrow (row_low HO.out (by omega))
        have HR1 : Hid (Box2 w1 w.heap.size 45 (.bool false) (.slice none 0 0)) := (HR.out.alloc _).kept hgrow (row_low HO.out (by omega))
        have Hb1 : Hid (Below w.heap.size w w1) := (Below.alloc Hb.out (Below.size Hb.out) _).grown hgrow (by have := Below.size Hb.out; simp; omega) (fun k hk => by have := ((World.ownsRow.lt HO.out) k hk).1; omega)
        have HO1 : Hid (w1.ownsRow (w.heap.size + 2) 3 1 (.slice (some ⟨g1, 0, none⟩) (i + 1) cap1) (i + 1) (vals (ds ++ [Y % 10000]))) := hown1
        clear hown1 hgrow hat hlt1 x0 x1 x2 r0 r1 r2 r3
        have x1 := HX1.out.cell1
        have x2 := HX1.out.frozen 1
        go_wp2
        exact ⟨⟨i + 1, Y / 10000, ds ++ [Y % 10000], _, rfl, HL', HR1.out.far (by omega) _, HX1.out.set _, row_set HO1.out (by omega) _ _, Hb1.out.setCell (Nat.le_succ _) _⟩, by simp [intOf]; omega⟩

theorem clongOf (x : Int) (w : World) (hx : fits x = true) :
    Calls Tryd.prog 30 #[.int .i64 x] w fun e w' => ∃ v, e = .returned (.agg #[.bool (decide (x < 0)), v]) ∧ DgS 5 w' v x.natAbs ∧ Below w.heap.size w w' := by
  have hx' := (fits_iff x).1 hx
  rcases Int.lt_or_le x 0 with h | h
  · have := clongOf_n x w h hx'.1
    rwa [show ((x.natAbs : Nat) : Int) = -x by omega]
  · have := clongOf_p x w h hx'.2
    rwa [show ((x.natAbs : Nat) : Int) = x by omega]
end Go.Proofs.YtmkfkjicfmllmaaDoor
