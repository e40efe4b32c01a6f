/- maps of whole numbers: what they hold, as a function -/
import Derived.Test.YtfjkockcgddgbaaGreatDskA
import Derived.Maps.OwnSet
import Derived.Maps.RangeWalk
import Derived.Maps.Ext
namespace Go.Proofs.YtfjkockcgddgbaaGreat
open Go.RowKit Go.Lib Go.Maps
theorem lawI : Keyed Tryz.prog 3 := int_keyed Tryz.underlying3
theorem zeroI (w : World) : (zeroValue 3).run Tryz.prog w = .ok (.int .i64 0) w := by kernel_rfl
def i64 (x : Int) : Prop := (Lit.int .i64 x).wf = true
theorem i64_in {x : Int} (h0 : -9223372036854775808 ≤ x) (h1 : x ≤ 9223372036854775807) : i64 x := WalkArith.wf_i64 ⟨h0, h1⟩
/- block b is a map that holds F, of at most n entries -/
def MI (X : World) (b n : Nat) (F : Int → Option Int) : Prop := ∃ D : DataW Unit, X.ownsMap Tryz.prog 3 (plainElem Tryz.prog 3) b n D ∧ ∀ x, i64 x → (Maps.has D (.int .i64 x) = (F x).isSome ∧ ∀ v, F x = some v → ∀ z, D.atKey (.int .i64 x) z = .lit (.int .i64 v))
theorem keyLit (x : Int) : WideAt.IsKeyLit (.int .i64 x) := by simp [WideAt.IsKeyLit]
def updM (F : Int → Option Int) (k v : Int) : Int → Option Int := fun x => if x = k then some v else F x
theorem MI.lt {X : World} {b n : Nat} {F : Int → Option Int} (h : MI X b n F) : b < X.heap.size := by obtain ⟨D, h, -⟩ := h; exact h.lt
theorem MI.mono {X : World} {b n m : Nat} {F : Int → Option Int} (h : MI X b n F) (hn : n ≤ m) : MI X b m F := by obtain ⟨D, h, k⟩ := h; exact ⟨D, h.mono hn, k⟩
theorem MI.keep {X Y : World} {b n : Nat} {F : Int → Option Int} (h : MI X b n F) (e : Y.heap[b]? = X.heap[b]?) : MI Y b n F := by
  obtain ⟨D, ⟨es, clock, hb, r⟩, k⟩ := h
  exact ⟨D, ⟨es, clock, e.trans hb, r⟩, k⟩
theorem MI.isMap {X : World} {b n : Nat} {F : Int → Option Int} (h : MI X b n F) : ∃ es clock, X.heap[b]? = some (.map es clock) := by
  obtain ⟨D, ⟨es, clock, hb, r⟩, k⟩ := h
  exact ⟨es, clock, hb⟩
theorem MI.far {X : World} {b n : Nat} {F : Int → Option Int} (h : MI X b n F) (T : TypeId → Bool) : farT T X b := fun cur e fz he => by
  obtain ⟨es, clock, hb⟩ := h.isMap
  rw [hb] at he
  cases he
theorem MI.made (X : World) : MI (X.alloc (.map #[] 0)) X.heap.size 0 (fun _ => none) :=
  ⟨.map [], World.ownsMap_made X _ _ _, fun _ _ => ⟨rfl, fun v h => by cases h⟩⟩
theorem MI.look {X : World} {b n : Nat} {F : Int → Option Int} (h : MI X b n F) {x : Int} (hx : i64 x) :
    (Instr.lookup 94 (.map (some b)) (.int .i64 x) true).run Tryz.prog X = .ok (.tuple #[.int .i64 ((F x).getD 0), .bool (F x).isSome]) X := by
  obtain ⟨D, h, k⟩ := h
  obtain ⟨k1, k2⟩ := k x hx
  obtain ⟨v, ps, hrun, hR⟩ := h.look_ok lawI Tryz.underlying94 (zeroI X) (plainElem_int (H := Unit) Tryz.underlying3 (by decide)) (keyOf_int_mk Tryz.underlying3 hx)
  obtain ⟨c, rfl, hc, -⟩ := plainElem_int_inv Tryz.underlying3 hR
  simp only [Prod.mk.injEq] at hc
  rw [hrun, k1]
  cases hF : F x with
  | none =>
    rw [hF] at k1
    rw [atKey_of_not_has k1] at hc
    have e : c = 0 := by have := hc.1; simp at this; exact this.symm
    simp [e]
  | some v =>
    rw [k2 v hF] at hc
    have e : c = v := by have := hc.1; simp at this; exact this.symm
    simp [e]
theorem MI.look1 {X : World} {b n : Nat} {F : Int → Option Int} (h : MI X b n F) {x : Int} (hx : i64 x) :
    (Instr.lookup 94 (.map (some b)) (.int .i64 x) false).run Tryz.prog X = .ok (.int .i64 ((F x).getD 0)) X := by
  obtain ⟨D, h, k⟩ := h
  obtain ⟨k1, k2⟩ := k x hx
  obtain ⟨c, hrun, hc, -⟩ := h.lookup_int lawI Tryz.underlying94 Tryz.underlying3 (zeroI X) (keyOf_int_mk Tryz.underlying3 hx)
  rw [hrun]
  cases hF : F x with
  | none =>
    rw [hF] at k1
    rw [atKey_of_not_has k1] at hc
    have e : c = 0 := by simp at hc; exact hc.symm
    simp [e]
  | some v =>
    rw [k2 v hF] at hc
    have e : c = v := by simp at hc; exact hc.symm
    simp [e]
theorem MI.put {X : World} {b n : Nat} {F : Int → Option Int} (h : MI X b n F) (hn : n ≤ 1000000) {x v : Int} (hx : i64 x) (hv : i64 v) :
    ∃ Y, (Instr.mapUpdate 94 (.map (some b)) (.int .i64 x) (.int .i64 v)).run Tryz.prog X = .ok () Y ∧ MI Y b (n + 1) (updM F x v) ∧ X.grownBy Y (some b) := by
  obtain ⟨D, h, k⟩ := h
  obtain ⟨Y, hrun, hY, hg⟩ := h.update lawI Tryz.underlying94 (by unfold maxLen; omega) (keyOf_int_mk Tryz.underlying3 hx) (plainElem_int (H := Unit) Tryz.underlying3 hv)
  refine ⟨Y, hrun, ⟨_, hY, fun y hy => ?_⟩, hg⟩
  unfold updM
  by_cases e : y = x
  · subst e
    rw [if_pos rfl]
    refine ⟨has_put_same h.isMap (keyLit _) _, fun u hu z => ?_⟩
    obtain rfl : v = u := by simpa using hu
    exact atKey_put_same h.isMap (keyLit _) _ z
  · have ne : Lit.int .i64 y ≠ Lit.int .i64 x := fun h => by injection h with _ h; exact e h
    rw [if_neg e, has_put_other ne]
    exact ⟨(k y hy).1, fun u hu z => by rw [atKey_put_other ne]; exact (k y hy).2 u hu z⟩
theorem MI.clear {X : World} {b n : Nat} {F : Int → Option Int} (h : MI X b n F) (ty : TypeId) :
    ∃ Y, (Builtin.clear_ #[94] ty #[.map (some b)]).run Tryz.prog X = .ok (.tuple #[]) Y ∧ MI Y b 0 (fun _ => none) ∧ X.grownBy Y (some b) := by
  obtain ⟨D, ⟨es, clock, hb, F0, hs, rfl⟩, k⟩ := h
  refine ⟨ChangeMaps.setBlock X b (.map #[] clock), ?_, ⟨.map [], ⟨#[], clock, ChangeMaps.heap_setBlock_same hb _, ⟨by simp, ?_, by simp⟩, Nat.le_refl _, rfl⟩, fun _ _ => ⟨rfl, fun v h => by cases h⟩⟩, ⟨rfl, rfl, rfl, by simp [ChangeMaps.setBlock], fun i _ hi => ChangeMaps.heap_setBlock_other hb _ (fun e => hi (by rw [e]))⟩⟩
  · simp [Builtin.clear_, run_underlying Tryz.underlying94, MapKept.run_getObj_map hb, MapKept.run_setObj_map _ hb, Result.andThen, ChangeMaps.setBlock]
  · exact MapKept.stamped_empty clock
end Go.Proofs.YtfjkockcgddgbaaGreat
