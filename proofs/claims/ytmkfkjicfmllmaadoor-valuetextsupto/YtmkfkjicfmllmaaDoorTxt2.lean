/- Show of both packages -/
import Derived.Test.YtmkfkjicfmllmaaDoorTxt1
import Derived.Test.YtmkfkjicfmllmaaDoorShelf
import Derived.Lib.SmallJoins
namespace Go.Proofs.YtmkfkjicfmllmaaDoor
open Go.RowKit
attribute [local go_sem ↓] Go.wp_at_zero Go.wp_at_succ
/- the library's variables that are read -/
structure Vs (w : World) : Prop where
  tab : Lib.TabIs Tryd.prog w "internal/strconv.uint64pow10" .u64 Lib.pow10Tab
  syn : ∃ tp p, w.var? Tryd.prog "strconv.ErrSyntax" = some #[.iface tp p]
  rng : ∃ tp p, w.var? Tryd.prog "strconv.ErrRange" = some #[.iface tp p]
theorem Vs.below {w w' : World} (h : Vs w) (hb : Below w.heap.size w w') : Vs w' := by
  obtain ⟨h1, ⟨tp, p, h2⟩, ⟨tp', p', h3⟩⟩ := h
  exact ⟨Go.Joins.var_stays (g := 0) (by kernel_rfl) h1 hb (Nat.le_refl _), ⟨tp, p, Go.Joins.var_stays (g := 1) (by kernel_rfl) h2 hb (Nat.le_refl _)⟩, ⟨tp', p', Go.Joins.var_stays (g := 2) (by kernel_rfl) h3 hb (Nat.le_refl _)⟩⟩
def nullS : ByteArray := ⟨#[110, 117, 108, 108]⟩
def itoaS (n : Int) : ByteArray := ⟨(Lib.itoa n).toArray⟩
def boolS (b : Bool) : ByteArray := ⟨(Lib.formatBool b).toArray⟩
def showS (k n : Int) (s : ByteArray) : ByteArray := if k = 1 then boolS (n != 0) else if k = 2 then itoaS n else if k = 3 then s else nullS
theorem grow_below {w : World} {k : Nat} {os : Array Obj} : Below w.heap.size w (Go.Sort.grow (w.drewN k) os) := by
  refine ⟨rfl, rfl, rfl, ?_, fun i hi => ?_⟩
  · show w.heap.size ≤ (w.heap ++ os).size
    rw [Array.size_append]; omega
  · show (w.heap ++ os)[i]? = w.heap[i]?
    rw [Array.getElem?_append_left hi]
set_option maxRecDepth 20000 in
set_option maxHeartbeats 1000000 in
theorem vshow (k n : Int) (s : ByteArray) (w : World) (hn : -9223372036854775808 ≤ n ∧ n ≤ 9223372036854775807) (hv : Vs w) :
    Calls Tryd.prog 11 #[(.agg #[.int .i64 (k), .int .i64 (n), .string (s)])] w fun e w' => e = .returned (.string (showS k n s)) ∧ Below w.heap.size w w' := by
  have HV : Hid (Vs (w.alloc (.cells #[.int .i64 k, .int .i64 n, .string s] 23))) := hv.below ((Below.refl _ _).alloc (Nat.le_refl _) _)
  clear hv
  by_cases h1 : k = 1
  · have e : showS k n s = boolS (n != 0) := if_pos h1
    rw [e]
    clear e HV
    subst h1
    go_enter Tryd.func11, Tryd.ntmps11
    go_wp2_with fail
    refine (Tryd.strconv_FormatBool _ _).mono ?_
    rintro e w1 ⟨rfl, rfl⟩
    go_wp2
    go_ret
    exact ⟨rfl, ((Below.refl _ _).alloc (Nat.le_refl _) _)⟩
  by_cases h2 : k = 2
  · have e : showS k n s = itoaS n := by unfold showS; rw [if_neg h1, if_pos h2]
    rw [e]
    clear e
    subst h2
    go_enter Tryd.func11, Tryd.ntmps11
    go_wp2_with fail
    refine (Tryd.strconv_FormatInt_10 n hn.1 hn.2 _ HV.out.tab).mono ?_
    rintro e w1 ⟨rfl, j, os, rfl⟩
    have HB : Hid _ := keepBelow ((Below.refl _ _).alloc (Nat.le_refl _) _) (grow_below (w := (w.alloc (.cells #[.int .i64 2, .int .i64 n, .string s] 23))) (k := j) (os := os))
    generalize Go.Sort.grow _ os = W at *
    go_wp2
    go_ret
    exact ⟨rfl, HB.out⟩
  by_cases h3 : k = 3
  · have e : showS k n s = s := by unfold showS; rw [if_neg h1, if_neg h2, if_pos h3]
    rw [e]
    clear e
    subst h3
    go_enter Tryd.func11, Tryd.ntmps11
    go_wp2
    go_ret
    exact ⟨rfl, ((Below.refl _ _).alloc (Nat.le_refl _) _)⟩
  have e : showS k n s = nullS := by unfold showS; rw [if_neg h1, if_neg h2, if_neg h3]
  rw [e]
  clear e
  go_enter Tryd.func11, Tryd.ntmps11
  go_wp2
  go_ret
  exact ⟨rfl, ((Below.refl _ _).alloc (Nat.le_refl _) _)⟩
set_option maxRecDepth 20000 in
set_option maxHeartbeats 1000000 in
theorem rshow (k n : Int) (s : ByteArray) (w : World) (hn : -9223372036854775808 ≤ n ∧ n ≤ 9223372036854775807) (hv : Vs w) :
    Calls Tryd.prog 12 #[(.agg #[.int .i64 (k), .int .i64 (n), .string (s)])] w fun e w' => e = .returned (.string (showS k n s)) ∧ Below w.heap.size w w' := by
  have HV : Hid (Vs w) := hv
  clear hv
  by_cases h1 : k = 1
  · have e : showS k n s = boolS (n != 0) := if_pos h1
    rw [e]
    clear e
    subst h1
    go_enter Tryd.func12, Tryd.ntmps12
    go_wp2_with fail
    refine (rclean _ _ _ _).mono ?_
    rintro e w1 ⟨rfl, hb1⟩
    obtain ⟨hc1, hf1⟩ := bcell hb1; have za1 : w.heap.size < w1.heap.size := (by have := hb1.size; (try simp at this); omega)
    have HB1 : Hid (Below w.heap.size w w1) := keepBelow ((Below.refl _ _).alloc (Nat.le_refl _) _) hb1
    clear hb1
    rw [show ck 1 = 1 from rfl, show cs 1 s = ⟨#[]⟩ from rfl]
    cases hb : (n != 0) with
    | false =>
      have e9 : (⟨#[102, 97, 108, 115, 101]⟩ : ByteArray) = boolS false := by decide +kernel
      have E9 : Hid _ := e9
      rw [show cn 1 n = 0 by unfold cn; rw [if_pos rfl, hb]; rfl]
      have HBn : Hid _ := hb
      clear hb e9
      go_wp2_with fail
      go_ret
      exact ⟨by rw [HBn.out, ← E9.out]; rfl, ((((HB1.out).setCell (by simp <;> omega) _).setCell (by simp <;> omega) _).setCell (by simp <;> omega) _).alloc (by simp; omega) _⟩
    | true =>
      have e9 : (⟨#[116, 114, 117, 101]⟩ : ByteArray) = boolS true := by decide +kernel
      have E9 : Hid _ := e9
      rw [show cn 1 n = 1 by unfold cn; rw [if_pos rfl, hb]; rfl]
      have HBn : Hid _ := hb
      clear hb e9
      go_wp2_with fail
      go_ret
      exact ⟨by rw [HBn.out, ← E9.out]; rfl, ((((HB1.out).setCell (by simp <;> omega) _).setCell (by simp <;> omega) _).setCell (by simp <;> omega) _).alloc (by simp; omega) _⟩
  by_cases h2 : k = 2
  · have e : showS k n s = itoaS n := by unfold showS; rw [if_neg h1, if_pos h2]
    rw [e]
    clear e
    subst h2
    go_enter Tryd.func12, Tryd.ntmps12
    go_wp2_with fail
    refine (rclean _ _ _ _).mono ?_
    rintro e w1 ⟨rfl, hb1⟩
    obtain ⟨hc1, hf1⟩ := bcell hb1; have za1 : w.heap.size < w1.heap.size := (by have := hb1.size; (try simp at this); omega)
    have HB1 : Hid (Below w.heap.size w w1) := keepBelow ((Below.refl _ _).alloc (Nat.le_refl _) _) hb1
    clear hb1
    rw [show ck 2 = 2 from rfl, show cs 2 s = ⟨#[]⟩ from rfl, show cn 2 n = n from rfl]
    have HB2 : Hid (Below w.heap.size w (((w1.setCell ⟨w.heap.size, 0, none⟩ (.int .i64 2)).setCell ⟨w.heap.size, 1, none⟩ (.int .i64 n)).setCell ⟨w.heap.size, 2, none⟩ (.string ⟨#[]⟩))) := (((HB1.out).setCell (by simp <;> omega) _).setCell (by simp <;> omega) _).setCell (by simp <;> omega) _
    go_wp2_with fail
    generalize ((w1.setCell ⟨w.heap.size, 0, none⟩ (.int .i64 2)).setCell ⟨w.heap.size, 1, none⟩ (.int .i64 n)).setCell ⟨w.heap.size, 2, none⟩ (.string ⟨#[]⟩) = W2 at *
    refine (Tryd.strconv_FormatInt_10 n hn.1 hn.2 W2 (HV.out.below HB2.out).tab).mono ?_
    rintro e w3 ⟨rfl, j, os, rfl⟩
    have HB : Hid _ := keepBelow HB2.out (grow_below (w := W2) (k := j) (os := os))
    generalize Go.Sort.grow _ os = W at *
    go_wp2
    go_ret
    exact ⟨rfl, HB.out⟩
  by_cases h3 : k = 3
  · have e : showS k n s = s := by unfold showS; rw [if_neg h1, if_neg h2, if_pos h3]
    rw [e]
    clear e
    subst h3
    go_enter Tryd.func12, Tryd.ntmps12
    go_wp2_with fail
    refine (rclean _ _ _ _).mono ?_
    rintro e w1 ⟨rfl, hb1⟩
    obtain ⟨hc1, hf1⟩ := bcell hb1; have za1 : w.heap.size < w1.heap.size := (by have := hb1.size; (try simp at this); omega)
    have HB1 : Hid (Below w.heap.size w w1) := keepBelow ((Below.refl _ _).alloc (Nat.le_refl _) _) hb1
    clear hb1
    rw [show ck 3 = 3 from rfl, show cs 3 s = s from rfl, show cn 3 n = 0 from rfl]
    go_wp2_with fail
    go_ret
    exact ⟨rfl, (((HB1.out).setCell (by simp <;> omega) _).setCell (by simp <;> omega) _).setCell (by simp <;> omega) _⟩
  have e : showS k n s = nullS := by unfold showS; rw [if_neg h1, if_neg h2, if_neg h3]
  rw [e]
  clear e
  have hc : ck k = 0 := by unfold ck; rw [if_neg h1, if_neg h2, if_neg h3]
  go_enter Tryd.func12, Tryd.ntmps12
  go_wp2_with fail
  refine (rclean _ _ _ _).mono ?_
  rintro e w1 ⟨rfl, hb1⟩
  obtain ⟨hc1, hf1⟩ := bcell hb1; have za1 : w.heap.size < w1.heap.size := (by have := hb1.size; (try simp at this); omega)
  have HB1 : Hid (Below w.heap.size w w1) := keepBelow ((Below.refl _ _).alloc (Nat.le_refl _) _) hb1
  clear hb1
  rw [hc]
  clear hc
  generalize cn k n = n2
  generalize cs k s = s2
  go_wp2_with fail
  go_ret
  exact ⟨rfl, (((HB1.out).setCell (by simp <;> omega) _).setCell (by simp <;> omega) _).setCell (by simp <;> omega) _⟩
end Go.Proofs.YtmkfkjicfmllmaaDoor
