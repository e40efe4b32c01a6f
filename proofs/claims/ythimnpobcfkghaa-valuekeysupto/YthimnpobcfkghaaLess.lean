/- The contracts of relstoreref.less, sign and Order, and that this order is value.Order's. -/
import Derived.Test.YthimnpobcfkghaaOrder
namespace Go.Proofs.Ythimnpobcfkghaa
open Go.RowKit
attribute [local go_sem ↓] Go.wp_at_zero Go.wp_at_succ

def lessV (k n : Int) (s : ByteArray) (k' n' : Int) (s' : ByteArray) : Bool := if ck k = ck k' then (if ck k = 3 then Op.bytesLess (cs k s).toList (cs k' s').toList else decide (cn k n < cn k' n')) else decide (ck k < ck k')

theorem keepCell {W w1 : World} (hb : Below W.heap.size W w1) {A o : Nat} {v : Value} (hA : A < W.heap.size) (h : W.cell? ⟨A, o, none⟩ = some v) : w1.cell? ⟨A, o, none⟩ = some v := by
  rw [(bcell hb).1 A o hA, h]
theorem keepBelow {w W w1 : World} (h : Below w.heap.size w W) (hb : Below W.heap.size W w1) : Below w.heap.size w w1 := h.trans (hb.mono h.size)
theorem below3 (w : World) (o p q : Obj) : Below w.heap.size w (((w.alloc o).alloc p).alloc q).drew := ((((Below.refl _ _).alloc (Nat.le_refl _) _).alloc (by simp) _).alloc (by simp; omega) _).drew
theorem keepSize {W w1 : World} (hb : Below W.heap.size W w1) {A : Nat} (hA : A < W.heap.size) : A < w1.heap.size := Nat.lt_of_lt_of_le hA hb.size
theorem ret_bool {a b : Bool} (h : a = b) : Ending.returned (.bool a) = .returned (.bool b) := by rw [h]


def signI (a b : Bool) : Int := if a then -1 else if b then 1 else 0

theorem bl_lt (x : List UInt8) : ∀ y, Op.bytesLess x y = decide (x < y) := by
  induction x with
  | nil => intro y; cases y <;> simp [Op.bytesLess]
  | cons a x ih =>
    intro y
    cases y with
    | nil => simp [Op.bytesLess]
    | cons b y =>
      have := ih y
      by_cases h1 : a < b
      · simp [Op.bytesLess, h1, List.cons_lt_cons_iff]
      · by_cases h2 : a = b <;> simp [Op.bytesLess, h1, h2, this, List.cons_lt_cons_iff]
theorem bl_asymm {x y : List UInt8} (h : Op.bytesLess x y = true) : Op.bytesLess y x = false := by
  rw [bl_lt] at h ⊢
  simp at h ⊢
  exact List.le_of_lt h
theorem bl_tri {x y : List UInt8} (h : Op.bytesLess x y = false) (h' : ¬ x = y) : Op.bytesLess y x = true := by
  rw [bl_lt] at h ⊢
  have h1 : ¬ x < y := by simpa using h
  have h2 : y < x := by
    rcases Decidable.em (y < x) with c | c
    · exact c
    · exact absurd (List.le_antisymm (List.not_lt.mp c) (List.not_lt.mp h1)) h'
  simpa using h2
theorem bl_irr (x : List UInt8) : Op.bytesLess x x = false := by
  rw [bl_lt]; simp

theorem ck_range (k : Int) : ck k = 0 ∨ ck k = 1 ∨ ck k = 2 ∨ ck k = 3 := by
  unfold ck; split <;> (try split) <;> (try split) <;> simp
theorem ck3 {k : Int} (h : ck k = 3) : k = 3 := by
  unfold ck at h; by_cases a : k = 1 <;> by_cases b : k = 2 <;> by_cases c : k = 3 <;> simp_all
theorem cn3 {k : Int} (n : Int) (h : ck k = 3) : cn k n = 0 := by
  have := ck3 h; subst this; rfl
theorem cs_no {k : Int} (s : ByteArray) (h : ¬ ck k = 3) : cs k s = ⟨#[]⟩ := by
  unfold cs; split
  · subst k; exact absurd rfl h
  · rfl

theorem less_ne {k k' : Int} (n : Int) (s : ByteArray) (n' : Int) (s' : ByteArray) (h : ¬ ck k = ck k') : lessV k n s k' n' s' = decide (ck k < ck k') := by
  unfold lessV; rw [if_neg h]
theorem less_str {k k' : Int} (n : Int) (s : ByteArray) (n' : Int) (s' : ByteArray) (h : ck k = ck k') (h3 : ck k = 3) : lessV k n s k' n' s' = Op.bytesLess (cs k s).toList (cs k' s').toList := by
  unfold lessV; rw [if_pos h, if_pos h3]
theorem less_num {k k' : Int} (n : Int) (s : ByteArray) (n' : Int) (s' : ByteArray) (h : ck k = ck k') (h3 : ¬ ck k = 3) : lessV k n s k' n' s' = decide (cn k n < cn k' n') := by
  unfold lessV; rw [if_pos h, if_neg h3]
theorem cmpS_self (x : ByteArray) : cmpS x x = 0 := by
  unfold cmpS; rw [bl_irr]; simp
theorem sign_str (x y : ByteArray) : signI (Op.bytesLess x.toList y.toList) (Op.bytesLess y.toList x.toList) = cmpS x y := by
  unfold signI cmpS
  by_cases b : Op.bytesLess x.toList y.toList = true
  · simp [b]
  · have b' : Op.bytesLess x.toList y.toList = false := by simpa using b
    by_cases e : x.toList = y.toList
    · rw [e, bl_irr]; simp
    · rw [b', bl_tri b' e]; simp [e]
theorem sign_num (x y : Int) : signI (decide (x < y)) (decide (y < x)) = cmpI x y := by
  unfold signI cmpI
  by_cases a : x < y <;> by_cases b : y < x <;> simp [a, b]
theorem orI_0 (y z : Int) : orI 0 y z = if y = 0 then z else y := by simp [orI]
theorem orI_00 (z : Int) : orI 0 0 z = z := by simp [orI]
theorem orI_y0 (y : Int) : orI 0 y 0 = y := by unfold orI; rw [if_pos rfl]; split <;> simp_all
theorem orI_ne {x : Int} (y z : Int) (h : ¬ x = 0) : orI x y z = x := by unfold orI; rw [if_neg h]

theorem sign_ord (k n : Int) (s : ByteArray) (k' n' : Int) (s' : ByteArray) : signI (lessV k n s k' n' s') (lessV k' n' s' k n s) = ordV k n s k' n' s' := by
  unfold ordV
  by_cases h : ck k = ck k'
  · have e0 : cmpI (ck k) (ck k') = 0 := by simp [cmpI, h]
    rw [e0]
    by_cases h3 : ck k = 3
    · have h3' : ck k' = 3 := by rw [← h]; exact h3
      rw [less_str n s n' s' h h3, less_str n' s' n s h.symm h3', cn3 n h3, cn3 n' h3', show cmpI 0 0 = 0 from rfl, orI_00, sign_str]
    · have h3' : ¬ ck k' = 3 := by rw [← h]; exact h3
      rw [less_num n s n' s' h h3, less_num n' s' n s h.symm h3', cs_no s h3, cs_no s' h3', cmpS_self, orI_y0, sign_num]
  · rw [less_ne n s n' s' h, less_ne n' s' n s (Ne.symm h), sign_num, orI_ne _ _ (by unfold cmpI; split <;> (try split) <;> omega)]

end Go.Proofs.Ythimnpobcfkghaa
