/- relstoreref.Cast -/
import Derived.Test.YtmkfkjicfmllmaaDoorTxt6
namespace Go.Proofs.YtmkfkjicfmllmaaDoor
open Go.RowKit
attribute [local go_sem ↓] Go.wp_at_zero Go.wp_at_succ
theorem rwhole (s : ByteArray) (w : World) (hs : s.size ≤ 1048576) :
    Calls Tryd.prog 24 #[.string s] w fun e w' => e = .returned (wv s) ∧ Below w.heap.size w w' := by
  unfold wv
  by_cases h0 : 0 < s.size
  · rw [dif_pos h0]
    by_cases h1 : (s[0]'h0).toNat = 45
    · rw [if_pos h1]
      exact rwholeN s _ w hs h0 h1 rfl
    · rw [if_neg h1]
      exact rwholeP s _ w hs h0 h1 rfl
  · rw [dif_neg h0]
    exact rwholeE s _ w hs (by omega) rfl
set_option maxRecDepth 20000 in
set_option maxHeartbeats 2000000 in
theorem rcast31 (n : Int) (s : ByteArray) (w : World) :
    Calls Tryd.prog 10 #[(.agg #[.int .i64 (3), .int .i64 (n), .string (s)]), .int .i64 1] w fun e w' => e = .returned (castV 3 n s 1) ∧ Below w.heap.size w w' := by
  have e9 : castV 3 n s 1 = truV s := rfl
  rw [e9]
  clear e9
  by_cases h1 : s = trueS
  · have e9 : truV s = (.agg #[.int .i64 (1), .int .i64 (1), .string (⟨#[]⟩)]) := if_pos h1
    have m1 : (s.toList == [116, 114, 117, 101]) = true := by rw [h1]; decide +kernel
    have n1 : s.toList = [116, 114, 117, 101] := by simpa using m1
    rw [e9]
    clear e9 h1
    go_enter Tryd.func10, Tryd.ntmps10
    go_wp2_with fail
    refine (rclean _ _ _ _).mono ?_
    rintro e w1 ⟨rfl, hb1⟩
    have hO0 : w1.heap[w.heap.size]? = some (.cells #[.int .i64 (3), .int .i64 n, .string s] 23 (0, 0)) := (hb1.block _ (by simp; omega)).trans ((heap_alloc_old (w.alloc (.cells #[.int .i64 (3), .int .i64 n, .string s] 23)) (.cells #[.int .i64 0, .int .i64 0, .string ⟨#[]⟩] 23) (by simp)).trans (heap_alloc_new w _))
    have hO1 : w1.heap[w.heap.size + 1]? = some (.cells #[.int .i64 0, .int .i64 0, .string ⟨#[]⟩] 23 (0, 0)) := (hb1.block _ (by simp)).trans (by have := heap_alloc_new (w.alloc (.cells #[.int .i64 (3), .int .i64 n, .string s] 23)) (.cells #[.int .i64 0, .int .i64 0, .string ⟨#[]⟩] 23); rw [show (w.alloc (.cells #[.int .i64 (3), .int .i64 n, .string s] 23)).heap.size = w.heap.size + 1 by simp] at this; exact this)
    obtain ⟨x0, x1, x2, y0, y1, y2⟩ := wcell hO0
    obtain ⟨r0, r1, r2, f0, f1, f2⟩ := wcell hO1
    have z1 : w.heap.size + 1 < w1.heap.size := (Array.getElem?_eq_some_iff.1 hO1).1
    have HO1 : Hid _ := hO1
    clear hO0 hO1
    have HB1 : Hid (Below w.heap.size w w1) := keepBelow (((Below.refl _ _).alloc (Nat.le_refl _) _).alloc (by simp) _) hb1
    clear hb1
    rw [show ck 3 = 3 from rfl, show cs 3 s = s from rfl, show cn 3 n = 0 from rfl]
    have HB3 : Hid (Below w.heap.size w (((w1.setCell ⟨w.heap.size, 0, none⟩ (.int .i64 3)).setCell ⟨w.heap.size, 1, none⟩ (.int .i64 (0))).setCell ⟨w.heap.size, 2, none⟩ (.string s))) := (((HB1.out).setCell (by simp <;> omega) _).setCell (by simp <;> omega) _).setCell (by simp <;> omega) _
    have HO3 : Hid ((((w1.setCell ⟨w.heap.size, 0, none⟩ (.int .i64 3)).setCell ⟨w.heap.size, 1, none⟩ (.int .i64 (0))).setCell ⟨w.heap.size, 2, none⟩ (.string s)).heap[w.heap.size + 1]? = some (.cells #[.int .i64 0, .int .i64 0, .string ⟨#[]⟩] 23 (0, 0))) := (Below.heap_setCell _ _ _ _ (by show w.heap.size + 1 ≠ w.heap.size; omega)).trans ((Below.heap_setCell _ _ _ _ (by show w.heap.size + 1 ≠ w.heap.size; omega)).trans ((Below.heap_setCell _ _ _ _ (by show w.heap.size + 1 ≠ w.heap.size; omega)).trans (HO1.out)))
    go_wp2_with fail
    clear x0 x1 x2 y0 y1 y2 r0 r1 r2 f0 f1 f2
    generalize ((w1.setCell ⟨w.heap.size, 0, none⟩ (.int .i64 3)).setCell ⟨w.heap.size, 1, none⟩ (.int .i64 (0))).setCell ⟨w.heap.size, 2, none⟩ (.string s) = W3 at *
    refine (rtruth true W3).mono ?_
    rintro e w2 ⟨rfl, hb2⟩
    have HO2 : Hid (w2.heap[w.heap.size + 1]? = some (.cells #[.int .i64 0, .int .i64 0, .string ⟨#[]⟩] 23 (0, 0))) := (hb2.block _ (Array.getElem?_eq_some_iff.1 HO3.out).1).trans HO3.out
    have HB2 : Hid (Below w.heap.size w w2) := HB3.out.trans (hb2.mono HB3.out.size)
    clear hb2
    rw [show bn true = 1 from rfl]
    obtain ⟨r0, r1, r2, f0, f1, f2⟩ := wcell HO2.out
    go_wp2
    refine bodyPost_ret (v := (.agg #[.int .i64 (1), .int .i64 (1), .string (⟨#[]⟩)])) (by simp [results, Tryd.results10, go_sem, *]) rfl ⟨rfl, ?_⟩
    exact (((HB2.out).setCell (by simp <;> omega) _).setCell (by simp <;> omega) _).setCell (by simp <;> omega) _
  · have n1 : ¬ s.toList = [116, 114, 117, 101] := ne_list h1
    have m1 : (s.toList == [116, 114, 117, 101]) = false := by simpa using n1
    by_cases h2 : s = falseS
    · have e9 : truV s = (.agg #[.int .i64 (1), .int .i64 (0), .string (⟨#[]⟩)]) := by unfold truV; rw [if_neg h1, if_pos h2]
      have m2 : (s.toList == [102, 97, 108, 115, 101]) = true := by rw [h2]; decide +kernel
      have n2 : s.toList = [102, 97, 108, 115, 101] := by simpa using m2
      rw [e9]
      clear e9 h1 h2
      go_enter Tryd.func10, Tryd.ntmps10
      go_wp2_with fail
      refine (rclean _ _ _ _).mono ?_
      rintro e w1 ⟨rfl, hb1⟩
      have hO0 : w1.heap[w.heap.size]? = some (.cells #[.int .i64 (3), .int .i64 n, .string s] 23 (0, 0)) := (hb1.block _ (by simp; omega)).trans ((heap_alloc_old (w.alloc (.cells #[.int .i64 (3), .int .i64 n, .string s] 23)) (.cells #[.int .i64 0, .int .i64 0, .string ⟨#[]⟩] 23) (by simp)).trans (heap_alloc_new w _))
      have hO1 : w1.heap[w.heap.size + 1]? = some (.cells #[.int .i64 0, .int .i64 0, .string ⟨#[]⟩] 23 (0, 0)) := (hb1.block _ (by simp)).trans (by have := heap_alloc_new (w.alloc (.cells #[.int .i64 (3), .int .i64 n, .string s] 23)) (.cells #[.int .i64 0, .int .i64 0, .string ⟨#[]⟩] 23); rw [show (w.alloc (.cells #[.int .i64 (3), .int .i64 n, .string s] 23)).heap.size = w.heap.size + 1 by simp] at this; exact this)
      obtain ⟨x0, x1, x2, y0, y1, y2⟩ := wcell hO0
      obtain ⟨r0, r1, r2, f0, f1, f2⟩ := wcell hO1
      have z1 : w.heap.size + 1 < w1.heap.size := (Array.getElem?_eq_some_iff.1 hO1).1
      have HO1 : Hid _ := hO1
      clear hO0 hO1
      have HB1 : Hid (Below w.heap.size w w1) := keepBelow (((Below.refl _ _).alloc (Nat.le_refl _) _).alloc (by simp) _) hb1
      clear hb1
      rw [show ck 3 = 3 from rfl, show cs 3 s = s from rfl, show cn 3 n = 0 from rfl]
      have HB3 : Hid (Below w.heap.size w (((w1.setCell ⟨w.heap.size, 0, none⟩ (.int .i64 3)).setCell ⟨w.heap.size, 1, none⟩ (.int .i64 (0))).setCell ⟨w.heap.size, 2, none⟩ (.string s))) := (((HB1.out).setCell (by simp <;> omega) _).setCell (by simp <;> omega) _).setCell (by simp <;> omega) _
      have HO3 : Hid ((((w1.setCell ⟨w.heap.size, 0, none⟩ (.int .i64 3)).setCell ⟨w.heap.size, 1, none⟩ (.int .i64 (0))).setCell ⟨w.heap.size, 2, none⟩ (.string s)).heap[w.heap.size + 1]? = some (.cells #[.int .i64 0, .int .i64 0, .string ⟨#[]⟩] 23 (0, 0))) := (Below.heap_setCell _ _ _ _ (by show w.heap.size + 1 ≠ w.heap.size; omega)).trans ((Below.heap_setCell _ _ _ _ (by show w.heap.size + 1 ≠ w.heap.size; omega)).trans ((Below.heap_setCell _ _ _ _ (by show w.heap.size + 1 ≠ w.heap.size; omega)).trans (HO1.out)))
      go_wp2_with fail
      clear x0 x1 x2 y0 y1 y2 r0 r1 r2 f0 f1 f2
      generalize ((w1.setCell ⟨w.heap.size, 0, none⟩ (.int .i64 3)).setCell ⟨w.heap.size, 1, none⟩ (.int .i64 (0))).setCell ⟨w.heap.size, 2, none⟩ (.string s) = W3 at *
      refine (rtruth false W3).mono ?_
      rintro e w2 ⟨rfl, hb2⟩
      have HO2 : Hid (w2.heap[w.heap.size + 1]? = some (.cells #[.int .i64 0, .int .i64 0, .string ⟨#[]⟩] 23 (0, 0))) := (hb2.block _ (Array.getElem?_eq_some_iff.1 HO3.out).1).trans HO3.out
      have HB2 : Hid (Below w.heap.size w w2) := HB3.out.trans (hb2.mono HB3.out.size)
      clear hb2
      rw [show bn false = 0 from rfl]
      obtain ⟨r0, r1, r2, f0, f1, f2⟩ := wcell HO2.out
      go_wp2
      refine bodyPost_ret (v := (.agg #[.int .i64 (1), .int .i64 (0), .string (⟨#[]⟩)])) (by simp [results, Tryd.results10, go_sem, *]) rfl ⟨rfl, ?_⟩
      exact (((HB2.out).setCell (by simp <;> omega) _).setCell (by simp <;> omega) _).setCell (by simp <;> omega) _
    · have e9 : truV s = (.agg #[.int .i64 (0), .int .i64 (0), .string (⟨#[]⟩)]) := by unfold truV; rw [if_neg h1, if_neg h2]
      have n2 : ¬ s.toList = [102, 97, 108, 115, 101] := ne_list h2
      have m2 : (s.toList == [102, 97, 108, 115, 101]) = false := by simpa using n2
      rw [e9]
      clear e9 h1 h2
      go_enter Tryd.func10, Tryd.ntmps10
      go_wp2_with fail
      refine (rclean _ _ _ _).mono ?_
      rintro e w1 ⟨rfl, hb1⟩
      have hO0 : w1.heap[w.heap.size]? = some (.cells #[.int .i64 (3), .int .i64 n, .string s] 23 (0, 0)) := (hb1.block _ (by simp; omega)).trans ((heap_alloc_old (w.alloc (.cells #[.int .i64 (3), .int .i64 n, .string s] 23)) (.cells #[.int .i64 0, .int .i64 0, .string ⟨#[]⟩] 23) (by simp)).trans (heap_alloc_new w _))
      have hO1 : w1.heap[w.heap.size + 1]? = some (.cells #[.int .i64 0, .int .i64 0, .string ⟨#[]⟩] 23 (0, 0)) := (hb1.block _ (by simp)).trans (by have := heap_alloc_new (w.alloc (.cells #[.int .i64 (3), .int .i64 n, .string s] 23)) (.cells #[.int .i64 0, .int .i64 0, .string ⟨#[]⟩] 23); rw [show (w.alloc (.cells #[.int .i64 (3), .int .i64 n, .string s] 23)).heap.size = w.heap.size + 1 by simp] at this; exact this)
      obtain ⟨x0, x1, x2, y0, y1, y2⟩ := wcell hO0
      obtain ⟨r0, r1, r2, f0, f1, f2⟩ := wcell hO1
      have z1 : w.heap.size + 1 < w1.heap.size := (Array.getElem?_eq_some_iff.1 hO1).1
      have HO1 : Hid _ := hO1
      clear hO0 hO1
      have HB1 : Hid (Below w.heap.size w w1) := keepBelow (((Below.refl _ _).alloc (Nat.le_refl _) _).alloc (by simp) _) hb1
      clear hb1
      rw [show ck 3 = 3 from rfl, show cs 3 s = s from rfl, show cn 3 n = 0 from rfl]
      have HB3 : Hid (Below w.heap.size w (((w1.setCell ⟨w.heap.size, 0, none⟩ (.int .i64 3)).setCell ⟨w.heap.size, 1, none⟩ (.int .i64 (0))).setCell ⟨w.heap.size, 2, none⟩ (.string s))) := (((HB1.out).setCell (by simp <;> omega) _).setCell (by simp <;> omega) _).setCell (by simp <;> omega) _
      have HO3 : Hid ((((w1.setCell ⟨w.heap.size, 0, none⟩ (.int .i64 3)).setCell ⟨w.heap.size, 1, none⟩ (.int .i64 (0))).setCell ⟨w.heap.size, 2, none⟩ (.string s)).heap[w.heap.size + 1]? = some (.cells #[.int .i64 0, .int .i64 0, .string ⟨#[]⟩] 23 (0, 0))) := (Below.heap_setCell _ _ _ _ (by show w.heap.size + 1 ≠ w.heap.size; omega)).trans ((Below.heap_setCell _ _ _ _ (by show w.heap.size + 1 ≠ w.heap.size; omega)).trans ((Below.heap_setCell _ _ _ _ (by show w.heap.size + 1 ≠ w.heap.size; omega)).trans (HO1.out)))
      go_wp2_with fail
      clear x0 x1 x2 y0 y1 y2 r0 r1 r2 f0 f1 f2
      generalize ((w1.setCell ⟨w.heap.size, 0, none⟩ (.int .i64 3)).setCell ⟨w.heap.size, 1, none⟩ (.int .i64 (0))).setCell ⟨w.heap.size, 2, none⟩ (.string s) = W3 at *
      refine (rnull W3).mono ?_
      rintro e w2 ⟨rfl, hb2⟩
      have HO2 : Hid (w2.heap[w.heap.size + 1]? = some (.cells #[.int .i64 0, .int .i64 0, .string ⟨#[]⟩] 23 (0, 0))) := (hb2.block _ (Array.getElem?_eq_some_iff.1 HO3.out).1).trans HO3.out
      have HB2 : Hid (Below w.heap.size w w2) := HB3.out.trans (hb2.mono HB3.out.size)
      clear hb2
      obtain ⟨r0, r1, r2, f0, f1, f2⟩ := wcell HO2.out
      go_wp2
      refine bodyPost_ret (v := (.agg #[.int .i64 (0), .int .i64 (0), .string (⟨#[]⟩)])) (by simp [results, Tryd.results10, go_sem, *]) rfl ⟨rfl, ?_⟩
      exact (((HB2.out).setCell (by simp <;> omega) _).setCell (by simp <;> omega) _).setCell (by simp <;> omega) _
set_option maxRecDepth 20000 in
set_option maxHeartbeats 8000000 in
theorem rcast (k n : Int) (s : ByteArray) (kind : Int) (w : World) (hn : -9223372036854775808 ≤ n ∧ n ≤ 9223372036854775807) (hs : s.size ≤ 1048576) (hv : Vs w) :
    Calls Tryd.prog 10 #[(.agg #[.int .i64 (k), .int .i64 (n), .string (s)]), .int .i64 kind] w fun e w' => e = .returned (castV k n s kind) ∧ Below w.heap.size w w' := by
  have HV : Hid (Vs w) := hv
  clear hv
  by_cases h1 : k = 1
  · subst h1
    by_cases g1 : kind = 1
    · subst g1
      have e9 : castV 1 n s 1 = (.agg #[.int .i64 (1), .int .i64 (bn (n != 0)), .string (⟨#[]⟩)]) := rfl
      rw [e9]
      clear e9
      go_enter Tryd.func10, Tryd.ntmps10
      go_wp2_with fail
      refine (rclean _ _ _ _).mono ?_
      rintro e w1 ⟨rfl, hb1⟩
      have hO0 : w1.heap[w.heap.size]? = some (.cells #[.int .i64 (1), .int .i64 n, .string s] 23 (0, 0)) := (hb1.block _ (by simp; omega)).trans ((heap_alloc_old (w.alloc (.cells #[.int .i64 (1), .int .i64 n, .string s] 23)) (.cells #[.int .i64 0, .int .i64 0, .string ⟨#[]⟩] 23) (by simp)).trans (heap_alloc_new w _))
      have hO1 : w1.heap[w.heap.size + 1]? = some (.cells #[.int .i64 0, .int .i64 0, .string ⟨#[]⟩] 23 (0, 0)) := (hb1.block _ (by simp)).trans (by have := heap_alloc_new (w.alloc (.cells #[.int .i64 (1), .int .i64 n, .string s] 23)) (.cells #[.int .i64 0, .int .i64 0, .string ⟨#[]⟩] 23); rw [show (w.alloc (.cells #[.int .i64 (1), .int .i64 n, .string s] 23)).heap.size = w.heap.size + 1 by simp] at this; exact this)
      obtain ⟨x0, x1, x2, y0, y1, y2⟩ := wcell hO0
      obtain ⟨r0, r1, r2, f0, f1, f2⟩ := wcell hO1
      have z1 : w.heap.size + 1 < w1.heap.size := (Array.getElem?_eq_some_iff.1 hO1).1
      have HO1 : Hid _ := hO1
      clear hO0 hO1
      have HB1 : Hid (Below w.heap.size w w1) := keepBelow (((Below.refl _ _).alloc (Nat.le_refl _) _).alloc (by simp) _) hb1
      clear hb1
      rw [show ck 1 = 1 from rfl, show cs 1 s = ⟨#[]⟩ from rfl, show cn 1 n = bn (n != 0) from rfl]
      go_wp2
      refine bodyPost_ret (v := (.agg #[.int .i64 (1), .int .i64 (bn (n != 0)), .string (⟨#[]⟩)])) (by simp [results, Tryd.results10, go_sem, *]) rfl ⟨rfl, ?_⟩
      exact ((((((HB1.out).setCell (by simp <;> omega) _).setCell (by simp <;> omega) _).setCell (by simp <;> omega) _).setCell (by simp <;> omega) _).setCell (by simp <;> omega) _).setCell (by simp <;> omega) _
    by_cases g2 : kind = 2
    · subst g2
      have e9 : castV 1 n s 2 = (.agg #[.int .i64 (2), .int .i64 (bn (n != 0)), .string (⟨#[]⟩)]) := rfl
      rw [e9]
      clear e9
      go_enter Tryd.func10, Tryd.ntmps10
      go_wp2_with fail
      refine (rclean _ _ _ _).mono ?_
      rintro e w1 ⟨rfl, hb1⟩
      have hO0 : w1.heap[w.heap.size]? = some (.cells #[.int .i64 (1), .int .i64 n, .string s] 23 (0, 0)) := (hb1.block _ (by simp; omega)).trans ((heap_alloc_old (w.alloc (.cells #[.int .i64 (1), .int .i64 n, .string s] 23)) (.cells #[.int .i64 0, .int .i64 0, .string ⟨#[]⟩] 23) (by simp)).trans (heap_alloc_new w _))
      have hO1 : w1.heap[w.heap.size + 1]? = some (.cells #[.int .i64 0, .int .i64 0, .string ⟨#[]⟩] 23 (0, 0)) := (hb1.block _ (by simp)).trans (by have := heap_alloc_new (w.alloc (.cells #[.int .i64 (1), .int .i64 n, .string s] 23)) (.cells #[.int .i64 0, .int .i64 0, .string ⟨#[]⟩] 23); rw [show (w.alloc (.cells #[.int .i64 (1), .int .i64 n, .string s] 23)).heap.size = w.heap.size + 1 by simp] at this; exact this)
      obtain ⟨x0, x1, x2, y0, y1, y2⟩ := wcell hO0
      obtain ⟨r0, r1, r2, f0, f1, f2⟩ := wcell hO1
      have z1 : w.heap.size + 1 < w1.heap.size := (Array.getElem?_eq_some_iff.1 hO1).1
      have HO1 : Hid _ := hO1
      clear hO0 hO1
      have HB1 : Hid (Below w.heap.size w w1) := keepBelow (((Below.refl _ _).alloc (Nat.le_refl _) _).alloc (by simp) _) hb1
      clear hb1
      rw [show ck 1 = 1 from rfl, show cs 1 s = ⟨#[]⟩ from rfl, show cn 1 n = bn (n != 0) from rfl]
      have HB3 : Hid (Below w.heap.size w (((w1.setCell ⟨w.heap.size, 0, none⟩ (.int .i64 1)).setCell ⟨w.heap.size, 1, none⟩ (.int .i64 (bn (n != 0)))).setCell ⟨w.heap.size, 2, none⟩ (.string ⟨#[]⟩))) := (((HB1.out).setCell (by simp <;> omega) _).setCell (by simp <;> omega) _).setCell (by simp <;> omega) _
      have HO3 : Hid ((((w1.setCell ⟨w.heap.size, 0, none⟩ (.int .i64 1)).setCell ⟨w.heap.size, 1, none⟩ (.int .i64 (bn (n != 0)))).setCell ⟨w.heap.size, 2, none⟩ (.string ⟨#[]⟩)).heap[w.heap.size + 1]? = some (.cells #[.int .i64 0, .int .i64 0, .string ⟨#[]⟩] 23 (0, 0))) := (Below.heap_setCell _ _ _ _ (by show w.heap.size + 1 ≠ w.heap.size; omega)).trans ((Below.heap_setCell _ _ _ _ (by show w.heap.size + 1 ≠ w.heap.size; omega)).trans ((Below.heap_setCell _ _ _ _ (by show w.heap.size + 1 ≠ w.heap.size; omega)).trans (HO1.out)))
      go_wp2_with fail
      clear x0 x1 x2 y0 y1 y2 r0 r1 r2 f0 f1 f2
      generalize ((w1.setCell ⟨w.heap.size, 0, none⟩ (.int .i64 1)).setCell ⟨w.heap.size, 1, none⟩ (.int .i64 (bn (n != 0)))).setCell ⟨w.heap.size, 2, none⟩ (.string ⟨#[]⟩) = W3 at *
      refine (rnum _ W3).mono ?_
      rintro e w2 ⟨rfl, hb2⟩
      have HO2 : Hid (w2.heap[w.heap.size + 1]? = some (.cells #[.int .i64 0, .int .i64 0, .string ⟨#[]⟩] 23 (0, 0))) := (hb2.block _ (Array.getElem?_eq_some_iff.1 HO3.out).1).trans HO3.out
      have HB2 : Hid (Below w.heap.size w w2) := HB3.out.trans (hb2.mono HB3.out.size)
      clear hb2
      obtain ⟨r0, r1, r2, f0, f1, f2⟩ := wcell HO2.out
      go_wp2
      refine bodyPost_ret (v := (.agg #[.int .i64 (2), .int .i64 (bn (n != 0)), .string (⟨#[]⟩)])) (by simp [results, Tryd.results10, go_sem, *]) rfl ⟨rfl, ?_⟩
      exact (((HB2.out).setCell (by simp <;> omega) _).setCell (by simp <;> omega) _).setCell (by simp <;> omega) _
    by_cases g3 : kind = 3
    · subst g3
      have e9 : castV 1 n s 3 = (.agg #[.int .i64 (3), .int .i64 (0), .string (showS 1 (bn (n != 0)) ⟨#[]⟩)]) := castV_show1 n s
      rw [e9]
      clear e9
      go_enter Tryd.func10, Tryd.ntmps10
      go_wp2_with fail
      refine (rclean _ _ _ _).mono ?_
      rintro e w1 ⟨rfl, hb1⟩
      have hO0 : w1.heap[w.heap.size]? = some (.cells #[.int .i64 (1), .int .i64 n, .string s] 23 (0, 0)) := (hb1.block _ (by simp; omega)).trans ((heap_alloc_old (w.alloc (.cells #[.int .i64 (1), .int .i64 n, .string s] 23)) (.cells #[.int .i64 0, .int .i64 0, .string ⟨#[]⟩] 23) (by simp)).trans (heap_alloc_new w _))
      have hO1 : w1.heap[w.heap.size + 1]? = some (.cells #[.int .i64 0, .int .i64 0, .string ⟨#[]⟩] 23 (0, 0)) := (hb1.block _ (by simp)).trans (by have := heap_alloc_new (w.alloc (.cells #[.int .i64 (1), .int .i64 n, .string s] 23)) (.cells #[.int .i64 0, .int .i64 0, .string ⟨#[]⟩] 23); rw [show (w.alloc (.cells #[.int .i64 (1), .int .i64 n, .string s] 23)).heap.size = w.heap.size + 1 by simp] at this; exact this)
      obtain ⟨x0, x1, x2, y0, y1, y2⟩ := wcell hO0
      obtain ⟨r0, r1, r2, f0, f1, f2⟩ := wcell hO1
      have z1 : w.heap.size + 1 < w1.heap.size := (Array.getElem?_eq_some_iff.1 hO1).1
      have HO1 : Hid _ := hO1
      clear hO0 hO1
      have HB1 : Hid (Below w.heap.size w w1) := keepBelow (((Below.refl _ _).alloc (Nat.le_refl _) _).alloc (by simp) _) hb1
      clear hb1
      rw [show ck 1 = 1 from rfl, show cs 1 s = ⟨#[]⟩ from rfl, show cn 1 n = bn (n != 0) from rfl]
      have HB3 : Hid (Below w.heap.size w (((w1.setCell ⟨w.heap.size, 0, none⟩ (.int .i64 1)).setCell ⟨w.heap.size, 1, none⟩ (.int .i64 (bn (n != 0)))).setCell ⟨w.heap.size, 2, none⟩ (.string ⟨#[]⟩))) := (((HB1.out).setCell (by simp <;> omega) _).setCell (by simp <;> omega) _).setCell (by simp <;> omega) _
      have HO3 : Hid ((((w1.setCell ⟨w.heap.size, 0, none⟩ (.int .i64 1)).setCell ⟨w.heap.size, 1, none⟩ (.int .i64 (bn (n != 0)))).setCell ⟨w.heap.size, 2, none⟩ (.string ⟨#[]⟩)).heap[w.heap.size + 1]? = some (.cells #[.int .i64 0, .int .i64 0, .string ⟨#[]⟩] 23 (0, 0))) := (Below.heap_setCell _ _ _ _ (by show w.heap.size + 1 ≠ w.heap.size; omega)).trans ((Below.heap_setCell _ _ _ _ (by show w.heap.size + 1 ≠ w.heap.size; omega)).trans ((Below.heap_setCell _ _ _ _ (by show w.heap.size + 1 ≠ w.heap.size; omega)).trans (HO1.out)))
      go_wp2_with fail
      clear x0 x1 x2 y0 y1 y2 r0 r1 r2 f0 f1 f2
      generalize ((w1.setCell ⟨w.heap.size, 0, none⟩ (.int .i64 1)).setCell ⟨w.heap.size, 1, none⟩ (.int .i64 (bn (n != 0)))).setCell ⟨w.heap.size, 2, none⟩ (.string ⟨#[]⟩) = W3 at *
      refine (rshow 1 (bn (n != 0)) ⟨#[]⟩ W3 (bn_in _) (HV.out.below HB3.out)).mono ?_
      rintro e w2 ⟨rfl, hb2⟩
      have HO2 : Hid (w2.heap[w.heap.size + 1]? = some (.cells #[.int .i64 0, .int .i64 0, .string ⟨#[]⟩] 23 (0, 0))) := (hb2.block _ (Array.getElem?_eq_some_iff.1 HO3.out).1).trans HO3.out
      have HB2 : Hid (Below w.heap.size w w2) := HB3.out.trans (hb2.mono HB3.out.size)
      clear hb2
      go_wp2_with fail
      refine (rstr _ w2).mono ?_
      rintro e w4 ⟨rfl, hb4⟩
      obtain ⟨r0, r1, r2, f0, f1, f2⟩ := wcell ((hb4.block _ (Array.getElem?_eq_some_iff.1 HO2.out).1).trans HO2.out)
      have HB4 : Hid (Below w.heap.size w w4) := HB2.out.trans (hb4.mono HB2.out.size)
      clear hb4
      go_wp2
      refine bodyPost_ret (v := (.agg #[.int .i64 (3), .int .i64 (0), .string (showS 1 (bn (n != 0)) ⟨#[]⟩)])) (by simp [results, Tryd.results10, go_sem, *]) rfl ⟨rfl, ?_⟩
      exact (((HB4.out).setCell (by simp <;> omega) _).setCell (by simp <;> omega) _).setCell (by simp <;> omega) _
    rcases (show kind < 1 ∨ 3 < kind by omega) with g4 | g4
    ·
      rw [castV_no g1 g2 g3]
      go_enter Tryd.func10, Tryd.ntmps10
      go_wp2_with fail
      refine (rclean _ _ _ _).mono ?_
      rintro e w1 ⟨rfl, hb1⟩
      have hO0 : w1.heap[w.heap.size]? = some (.cells #[.int .i64 (1), .int .i64 n, .string s] 23 (0, 0)) := (hb1.block _ (by simp; omega)).trans ((heap_alloc_old (w.alloc (.cells #[.int .i64 (1), .int .i64 n, .string s] 23)) (.cells #[.int .i64 0, .int .i64 0, .string ⟨#[]⟩] 23) (by simp)).trans (heap_alloc_new w _))
      have hO1 : w1.heap[w.heap.size + 1]? = some (.cells #[.int .i64 0, .int .i64 0, .string ⟨#[]⟩] 23 (0, 0)) := (hb1.block _ (by simp)).trans (by have := heap_alloc_new (w.alloc (.cells #[.int .i64 (1), .int .i64 n, .string s] 23)) (.cells #[.int .i64 0, .int .i64 0, .string ⟨#[]⟩] 23); rw [show (w.alloc (.cells #[.int .i64 (1), .int .i64 n, .string s] 23)).heap.size = w.heap.size + 1 by simp] at this; exact this)
      obtain ⟨x0, x1, x2, y0, y1, y2⟩ := wcell hO0
      obtain ⟨r0, r1, r2, f0, f1, f2⟩ := wcell hO1
      have z1 : w.heap.size + 1 < w1.heap.size := (Array.getElem?_eq_some_iff.1 hO1).1
      have HO1 : Hid _ := hO1
      clear hO0 hO1
      have HB1 : Hid (Below w.heap.size w w1) := keepBelow (((Below.refl _ _).alloc (Nat.le_refl _) _).alloc (by simp) _) hb1
      clear hb1
      rw [show ck 1 = 1 from rfl, show cs 1 s = ⟨#[]⟩ from rfl, show cn 1 n = bn (n != 0) from rfl]
      have HB3 : Hid (Below w.heap.size w (((w1.setCell ⟨w.heap.size, 0, none⟩ (.int .i64 1)).setCell ⟨w.heap.size, 1, none⟩ (.int .i64 (bn (n != 0)))).setCell ⟨w.heap.size, 2, none⟩ (.string ⟨#[]⟩))) := (((HB1.out).setCell (by simp <;> omega) _).setCell (by simp <;> omega) _).setCell (by simp <;> omega) _
      have HO3 : Hid ((((w1.setCell ⟨w.heap.size, 0, none⟩ (.int .i64 1)).setCell ⟨w.heap.size, 1, none⟩ (.int .i64 (bn (n != 0)))).setCell ⟨w.heap.size, 2, none⟩ (.string ⟨#[]⟩)).heap[w.heap.size + 1]? = some (.cells #[.int .i64 0, .int .i64 0, .string ⟨#[]⟩] 23 (0, 0))) := (Below.heap_setCell _ _ _ _ (by show w.heap.size + 1 ≠ w.heap.size; omega)).trans ((Below.heap_setCell _ _ _ _ (by show w.heap.size + 1 ≠ w.heap.size; omega)).trans ((Below.heap_setCell _ _ _ _ (by show w.heap.size + 1 ≠ w.heap.size; omega)).trans (HO1.out)))
      go_wp2_with fail
      clear x0 x1 x2 y0 y1 y2 r0 r1 r2 f0 f1 f2
      generalize ((w1.setCell ⟨w.heap.size, 0, none⟩ (.int .i64 1)).setCell ⟨w.heap.size, 1, none⟩ (.int .i64 (bn (n != 0)))).setCell ⟨w.heap.size, 2, none⟩ (.string ⟨#[]⟩) = W3 at *
      refine (rnull W3).mono ?_
      rintro e w2 ⟨rfl, hb2⟩
      have HO2 : Hid (w2.heap[w.heap.size + 1]? = some (.cells #[.int .i64 0, .int .i64 0, .string ⟨#[]⟩] 23 (0, 0))) := (hb2.block _ (Array.getElem?_eq_some_iff.1 HO3.out).1).trans HO3.out
      have HB2 : Hid (Below w.heap.size w w2) := HB3.out.trans (hb2.mono HB3.out.size)
      clear hb2
      obtain ⟨r0, r1, r2, f0, f1, f2⟩ := wcell HO2.out
      go_wp2
      refine bodyPost_ret (v := (.agg #[.int .i64 (0), .int .i64 (0), .string (⟨#[]⟩)])) (by simp [results, Tryd.results10, go_sem, *]) rfl ⟨rfl, ?_⟩
      exact (((HB2.out).setCell (by simp <;> omega) _).setCell (by simp <;> omega) _).setCell (by simp <;> omega) _
    · have g5 : ¬ kind < 1 := by omega
      rw [castV_no g1 g2 g3]
      go_enter Tryd.func10, Tryd.ntmps10
      go_wp2_with fail
      refine (rclean _ _ _ _).mono ?_
      rintro e w1 ⟨rfl, hb1⟩
      have hO0 : w1.heap[w.heap.size]? = some (.cells #[.int .i64 (1), .int .i64 n, .string s] 23 (0, 0)) := (hb1.block _ (by simp; omega)).trans ((heap_alloc_old (w.alloc (.cells #[.int .i64 (1), .int .i64 n, .string s] 23)) (.cells #[.int .i64 0, .int .i64 0, .string ⟨#[]⟩] 23) (by simp)).trans (heap_alloc_new w _))
      have hO1 : w1.heap[w.heap.size + 1]? = some (.cells #[.int .i64 0, .int .i64 0, .string ⟨#[]⟩] 23 (0, 0)) := (hb1.block _ (by simp)).trans (by have := heap_alloc_new (w.alloc (.cells #[.int .i64 (1), .int .i64 n, .string s] 23)) (.cells #[.int .i64 0, .int .i64 0, .string ⟨#[]⟩] 23); rw [show (w.alloc (.cells #[.int .i64 (1), .int .i64 n, .string s] 23)).heap.size = w.heap.size + 1 by simp] at this; exact this)
      obtain ⟨x0, x1, x2, y0, y1, y2⟩ := wcell hO0
      obtain ⟨r0, r1, r2, f0, f1, f2⟩ := wcell hO1
      have z1 : w.heap.size + 1 < w1.heap.size := (Array.getElem?_eq_some_iff.1 hO1).1
      have HO1 : Hid _ := hO1
      clear hO0 hO1
      have HB1 : Hid (Below w.heap.size w w1) := keepBelow (((Below.refl _ _).alloc (Nat.le_refl _) _).alloc (by simp) _) hb1
      clear hb1
      rw [show ck 1 = 1 from rfl, show cs 1 s = ⟨#[]⟩ from rfl, show cn 1 n = bn (n != 0) from rfl]
      have HB3 : Hid (Below w.heap.size w (((w1.setCell ⟨w.heap.size, 0, none⟩ (.int .i64 1)).setCell ⟨w.heap.size, 1, none⟩ (.int .i64 (bn (n != 0)))).setCell ⟨w.heap.size, 2, none⟩ (.string ⟨#[]⟩))) := (((HB1.out).setCell (by simp <;> omega) _).setCell (by simp <;> omega) _).setCell (by simp <;> omega) _
      have HO3 : Hid ((((w1.setCell ⟨w.heap.size, 0, none⟩ (.int .i64 1)).setCell ⟨w.heap.size, 1, none⟩ (.int .i64 (bn (n != 0)))).setCell ⟨w.heap.size, 2, none⟩ (.string ⟨#[]⟩)).heap[w.heap.size + 1]? = some (.cells #[.int .i64 0, .int .i64 0, .string ⟨#[]⟩] 23 (0, 0))) := (Below.heap_setCell _ _ _ _ (by show w.heap.size + 1 ≠ w.heap.size; omega)).trans ((Below.heap_setCell _ _ _ _ (by show w.heap.size + 1 ≠ w.heap.size; omega)).trans ((Below.heap_setCell _ _ _ _ (by show w.heap.size + 1 ≠ w.heap.size; omega)).trans (HO1.out)))
      go_wp2_with fail
      clear x0 x1 x2 y0 y1 y2 r0 r1 r2 f0 f1 f2
      generalize ((w1.setCell ⟨w.heap.size, 0, none⟩ (.int .i64 1)).setCell ⟨w.heap.size, 1, none⟩ (.int .i64 (bn (n != 0)))).setCell ⟨w.heap.size, 2, none⟩ (.string ⟨#[]⟩) = W3 at *
      refine (rnull W3).mono ?_
      rintro e w2 ⟨rfl, hb2⟩
      have HO2 : Hid (w2.heap[w.heap.size + 1]? = some (.cells #[.int .i64 0, .int .i64 0, .string ⟨#[]⟩] 23 (0, 0))) := (hb2.block _ (Array.getElem?_eq_some_iff.1 HO3.out).1).trans HO3.out
      have HB2 : Hid (Below w.heap.size w w2) := HB3.out.trans (hb2.mono HB3.out.size)
      clear hb2
      obtain ⟨r0, r1, r2, f0, f1, f2⟩ := wcell HO2.out
      go_wp2
      refine bodyPost_ret (v := (.agg #[.int .i64 (0), .int .i64 (0), .string (⟨#[]⟩)])) (by simp [results, Tryd.results10, go_sem, *]) rfl ⟨rfl, ?_⟩
      exact (((HB2.out).setCell (by simp <;> omega) _).setCell (by simp <;> omega) _).setCell (by simp <;> omega) _
  by_cases h2 : k = 2
  · subst h2
    by_cases g1 : kind = 1
    · subst g1
      have e9 : castV 2 n s 1 = (.agg #[.int .i64 (1), .int .i64 (bn (n != 0)), .string (⟨#[]⟩)]) := rfl
      rw [e9]
      clear e9
      go_enter Tryd.func10, Tryd.ntmps10
      go_wp2_with fail
      refine (rclean _ _ _ _).mono ?_
      rintro e w1 ⟨rfl, hb1⟩
      have hO0 : w1.heap[w.heap.size]? = some (.cells #[.int .i64 (2), .int .i64 n, .string s] 23 (0, 0)) := (hb1.block _ (by simp; omega)).trans ((heap_alloc_old (w.alloc (.cells #[.int .i64 (2), .int .i64 n, .string s] 23)) (.cells #[.int .i64 0, .int .i64 0, .string ⟨#[]⟩] 23) (by simp)).trans (heap_alloc_new w _))
      have hO1 : w1.heap[w.heap.size + 1]? = some (.cells #[.int .i64 0, .int .i64 0, .string ⟨#[]⟩] 23 (0, 0)) := (hb1.block _ (by simp)).trans (by have := heap_alloc_new (w.alloc (.cells #[.int .i64 (2), .int .i64 n, .string s] 23)) (.cells #[.int .i64 0, .int .i64 0, .string ⟨#[]⟩] 23); rw [show (w.alloc (.cells #[.int .i64 (2), .int .i64 n, .string s] 23)).heap.size = w.heap.size + 1 by simp] at this; exact this)
      obtain ⟨x0, x1, x2, y0, y1, y2⟩ := wcell hO0
      obtain ⟨r0, r1, r2, f0, f1, f2⟩ := wcell hO1
      have z1 : w.heap.size + 1 < w1.heap.size := (Array.getElem?_eq_some_iff.1 hO1).1
      have HO1 : Hid _ := hO1
      clear hO0 hO1
      have HB1 : Hid (Below w.heap.size w w1) := keepBelow (((Below.refl _ _).alloc (Nat.le_refl _) _).alloc (by simp) _) hb1
      clear hb1
      rw [show ck 2 = 2 from rfl, show cs 2 s = ⟨#[]⟩ from rfl, show cn 2 n = n from rfl]
      have HB3 : Hid (Below w.heap.size w (((w1.setCell ⟨w.heap.size, 0, none⟩ (.int .i64 2)).setCell ⟨w.heap.size, 1, none⟩ (.int .i64 (n))).setCell ⟨w.heap.size, 2, none⟩ (.string ⟨#[]⟩))) := (((HB1.out).setCell (by simp <;> omega) _).setCell (by simp <;> omega) _).setCell (by simp <;> omega) _
      have HO3 : Hid ((((w1.setCell ⟨w.heap.size, 0, none⟩ (.int .i64 2)).setCell ⟨w.heap.size, 1, none⟩ (.int .i64 (n))).setCell ⟨w.heap.size, 2, none⟩ (.string ⟨#[]⟩)).heap[w.heap.size + 1]? = some (.cells #[.int .i64 0, .int .i64 0, .string ⟨#[]⟩] 23 (0, 0))) := (Below.heap_setCell _ _ _ _ (by show w.heap.size + 1 ≠ w.heap.size; omega)).trans ((Below.heap_setCell _ _ _ _ (by show w.heap.size + 1 ≠ w.heap.size; omega)).trans ((Below.heap_setCell _ _ _ _ (by show w.heap.size + 1 ≠ w.heap.size; omega)).trans (HO1.out)))
      go_wp2_with fail
      clear x0 x1 x2 y0 y1 y2 r0 r1 r2 f0 f1 f2
      generalize ((w1.setCell ⟨w.heap.size, 0, none⟩ (.int .i64 2)).setCell ⟨w.heap.size, 1, none⟩ (.int .i64 (n))).setCell ⟨w.heap.size, 2, none⟩ (.string ⟨#[]⟩) = W3 at *
      refine (rtruth _ W3).mono ?_
      rintro e w2 ⟨rfl, hb2⟩
      have HO2 : Hid (w2.heap[w.heap.size + 1]? = some (.cells #[.int .i64 0, .int .i64 0, .string ⟨#[]⟩] 23 (0, 0))) := (hb2.block _ (Array.getElem?_eq_some_iff.1 HO3.out).1).trans HO3.out
      have HB2 : Hid (Below w.heap.size w w2) := HB3.out.trans (hb2.mono HB3.out.size)
      clear hb2
      obtain ⟨r0, r1, r2, f0, f1, f2⟩ := wcell HO2.out
      go_wp2
      refine bodyPost_ret (v := (.agg #[.int .i64 (1), .int .i64 (bn (n != 0)), .string (⟨#[]⟩)])) (by simp [results, Tryd.results10, go_sem, *]) rfl ⟨rfl, ?_⟩
      exact (((HB2.out).setCell (by simp <;> omega) _).setCell (by simp <;> omega) _).setCell (by simp <;> omega) _
    by_cases g2 : kind = 2
    · subst g2
      have e9 : castV 2 n s 2 = (.agg #[.int .i64 (2), .int .i64 (n), .string (⟨#[]⟩)]) := rfl
      rw [e9]
      clear e9
      go_enter Tryd.func10, Tryd.ntmps10
      go_wp2_with fail
      refine (rclean _ _ _ _).mono ?_
      rintro e w1 ⟨rfl, hb1⟩
      have hO0 : w1.heap[w.heap.size]? = some (.cells #[.int .i64 (2), .int .i64 n, .string s] 23 (0, 0)) := (hb1.block _ (by simp; omega)).trans ((heap_alloc_old (w.alloc (.cells #[.int .i64 (2), .int .i64 n, .string s] 23)) (.cells #[.int .i64 0, .int .i64 0, .string ⟨#[]⟩] 23) (by simp)).trans (heap_alloc_new w _))
      have hO1 : w1.heap[w.heap.size + 1]? = some (.cells #[.int .i64 0, .int .i64 0, .string ⟨#[]⟩] 23 (0, 0)) := (hb1.block _ (by simp)).trans (by have := heap_alloc_new (w.alloc (.cells #[.int .i64 (2), .int .i64 n, .string s] 23)) (.cells #[.int .i64 0, .int .i64 0, .string ⟨#[]⟩] 23); rw [show (w.alloc (.cells #[.int .i64 (2), .int .i64 n, .string s] 23)).heap.size = w.heap.size + 1 by simp] at this; exact this)
      obtain ⟨x0, x1, x2, y0, y1, y2⟩ := wcell hO0
      obtain ⟨r0, r1, r2, f0, f1, f2⟩ := wcell hO1
      have z1 : w.heap.size + 1 < w1.heap.size := (Array.getElem?_eq_some_iff.1 hO1).1
      have HO1 : Hid _ := hO1
      clear hO0 hO1
      have HB1 : Hid (Below w.heap.size w w1) := keepBelow (((Below.refl _ _).alloc (Nat.le_refl _) _).alloc (by simp) _) hb1
      clear hb1
      rw [show ck 2 = 2 from rfl, show cs 2 s = ⟨#[]⟩ from rfl, show cn 2 n = n from rfl]
      go_wp2
      refine bodyPost_ret (v := (.agg #[.int .i64 (2), .int .i64 (n), .string (⟨#[]⟩)])) (by simp [results, Tryd.results10, go_sem, *]) rfl ⟨rfl, ?_⟩
      exact ((((((HB1.out).setCell (by simp <;> omega) _).setCell (by simp <;> omega) _).setCell (by simp <;> omega) _).setCell (by simp <;> omega) _).setCell (by simp <;> omega) _).setCell (by simp <;> omega) _
    by_cases g3 : kind = 3
    · subst g3
      have e9 : castV 2 n s 3 = (.agg #[.int .i64 (3), .int .i64 (0), .string (showS 2 (n) ⟨#[]⟩)]) := castV_show2 n s
      rw [e9]
      clear e9
      go_enter Tryd.func10, Tryd.ntmps10
      go_wp2_with fail
      refine (rclean _ _ _ _).mono ?_
      rintro e w1 ⟨rfl, hb1⟩
      have hO0 : w1.heap[w.heap.size]? = some (.cells #[.int .i64 (2), .int .i64 n, .string s] 23 (0, 0)) := (hb1.block _ (by simp; omega)).trans ((heap_alloc_old (w.alloc (.cells #[.int .i64 (2), .int .i64 n, .string s] 23)) (.cells #[.int .i64 0, .int .i64 0, .string ⟨#[]⟩] 23) (by simp)).trans (heap_alloc_new w _))
      have hO1 : w1.heap[w.heap.size + 1]? = some (.cells #[.int .i64 0, .int .i64 0, .string ⟨#[]⟩] 23 (0, 0)) := (hb1.block _ (by simp)).trans (by have := heap_alloc_new (w.alloc (.cells #[.int .i64 (2), .int .i64 n, .string s] 23)) (.cells #[.int .i64 0, .int .i64 0, .string ⟨#[]⟩] 23); rw [show (w.alloc (.cells #[.int .i64 (2), .int .i64 n, .string s] 23)).heap.size = w.heap.size + 1 by simp] at this; exact this)
      obtain ⟨x0, x1, x2, y0, y1, y2⟩ := wcell hO0
      obtain ⟨r0, r1, r2, f0, f1, f2⟩ := wcell hO1
      have z1 : w.heap.size + 1 < w1.heap.size := (Array.getElem?_eq_some_iff.1 hO1).1
      have HO1 : Hid _ := hO1
      clear hO0 hO1
      have HB1 : Hid (Below w.heap.size w w1) := keepBelow (((Below.refl _ _).alloc (Nat.le_refl _) _).alloc (by simp) _) hb1
      clear hb1
      rw [show ck 2 = 2 from rfl, show cs 2 s = ⟨#[]⟩ from rfl, show cn 2 n = n from rfl]
      have HB3 : Hid (Below w.heap.size w (((w1.setCell ⟨w.heap.size, 0, none⟩ (.int .i64 2)).setCell ⟨w.heap.size, 1, none⟩ (.int .i64 (n))).setCell ⟨w.heap.size, 2, none⟩ (.string ⟨#[]⟩))) := (((HB1.out).setCell (by simp <;> omega) _).setCell (by simp <;> omega) _).setCell (by simp <;> omega) _
      have HO3 : Hid ((((w1.setCell ⟨w.heap.size, 0, none⟩ (.int .i64 2)).setCell ⟨w.heap.size, 1, none⟩ (.int .i64 (n))).setCell ⟨w.heap.size, 2, none⟩ (.string ⟨#[]⟩)).heap[w.heap.size + 1]? = some (.cells #[.int .i64 0, .int .i64 0, .string ⟨#[]⟩] 23 (0, 0))) := (Below.heap_setCell _ _ _ _ (by show w.heap.size + 1 ≠ w.heap.size; omega)).trans ((Below.heap_setCell _ _ _ _ (by show w.heap.size + 1 ≠ w.heap.size; omega)).trans ((Below.heap_setCell _ _ _ _ (by show w.heap.size + 1 ≠ w.heap.size; omega)).trans (HO1.out)))
      go_wp2_with fail
      clear x0 x1 x2 y0 y1 y2 r0 r1 r2 f0 f1 f2
      generalize ((w1.setCell ⟨w.heap.size, 0, none⟩ (.int .i64 2)).setCell ⟨w.heap.size, 1, none⟩ (.int .i64 (n))).setCell ⟨w.heap.size, 2, none⟩ (.string ⟨#[]⟩) = W3 at *
      refine (rshow 2 (n) ⟨#[]⟩ W3 hn (HV.out.below HB3.out)).mono ?_
      rintro e w2 ⟨rfl, hb2⟩
      have HO2 : Hid (w2.heap[w.heap.size + 1]? = some (.cells #[.int .i64 0, .int .i64 0, .string ⟨#[]⟩] 23 (0, 0))) := (hb2.block _ (Array.getElem?_eq_some_iff.1 HO3.out).1).trans HO3.out
      have HB2 : Hid (Below w.heap.size w w2) := HB3.out.trans (hb2.mono HB3.out.size)
      clear hb2
      go_wp2_with fail
      refine (rstr _ w2).mono ?_
      rintro e w4 ⟨rfl, hb4⟩
      obtain ⟨r0, r1, r2, f0, f1, f2⟩ := wcell ((hb4.block _ (Array.getElem?_eq_some_iff.1 HO2.out).1).trans HO2.out)
      have HB4 : Hid (Below w.heap.size w w4) := HB2.out.trans (hb4.mono HB2.out.size)
      clear hb4
      go_wp2
      refine bodyPost_ret (v := (.agg #[.int .i64 (3), .int .i64 (0), .string (showS 2 (n) ⟨#[]⟩)])) (by simp [results, Tryd.results10, go_sem, *]) rfl ⟨rfl, ?_⟩
      exact (((HB4.out).setCell (by simp <;> omega) _).setCell (by simp <;> omega) _).setCell (by simp <;> omega) _
    rcases (show kind < 1 ∨ 3 < kind by omega) with g4 | g4
    ·
      rw [castV_no g1 g2 g3]
      go_enter Tryd.func10, Tryd.ntmps10
      go_wp2_with fail
      refine (rclean _ _ _ _).mono ?_
      rintro e w1 ⟨rfl, hb1⟩
      have hO0 : w1.heap[w.heap.size]? = some (.cells #[.int .i64 (2), .int .i64 n, .string s] 23 (0, 0)) := (hb1.block _ (by simp; omega)).trans ((heap_alloc_old (w.alloc (.cells #[.int .i64 (2), .int .i64 n, .string s] 23)) (.cells #[.int .i64 0, .int .i64 0, .string ⟨#[]⟩] 23) (by simp)).trans (heap_alloc_new w _))
      have hO1 : w1.heap[w.heap.size + 1]? = some (.cells #[.int .i64 0, .int .i64 0, .string ⟨#[]⟩] 23 (0, 0)) := (hb1.block _ (by simp)).trans (by have := heap_alloc_new (w.alloc (.cells #[.int .i64 (2), .int .i64 n, .string s] 23)) (.cells #[.int .i64 0, .int .i64 0, .string ⟨#[]⟩] 23); rw [show (w.alloc (.cells #[.int .i64 (2), .int .i64 n, .string s] 23)).heap.size = w.heap.size + 1 by simp] at this; exact this)
      obtain ⟨x0, x1, x2, y0, y1, y2⟩ := wcell hO0
      obtain ⟨r0, r1, r2, f0, f1, f2⟩ := wcell hO1
      have z1 : w.heap.size + 1 < w1.heap.size := (Array.getElem?_eq_some_iff.1 hO1).1
      have HO1 : Hid _ := hO1
      clear hO0 hO1
      have HB1 : Hid (Below w.heap.size w w1) := keepBelow (((Below.refl _ _).alloc (Nat.le_refl _) _).alloc (by simp) _) hb1
      clear hb1
      rw [show ck 2 = 2 from rfl, show cs 2 s = ⟨#[]⟩ from rfl, show cn 2 n = n from rfl]
      have HB3 : Hid (Below w.heap.size w (((w1.setCell ⟨w.heap.size, 0, none⟩ (.int .i64 2)).setCell ⟨w.heap.size, 1, none⟩ (.int .i64 (n))).setCell ⟨w.heap.size, 2, none⟩ (.string ⟨#[]⟩))) := (((HB1.out).setCell (by simp <;> omega) _).setCell (by simp <;> omega) _).setCell (by simp <;> omega) _
      have HO3 : Hid ((((w1.setCell ⟨w.heap.size, 0, none⟩ (.int .i64 2)).setCell ⟨w.heap.size, 1, none⟩ (.int .i64 (n))).setCell ⟨w.heap.size, 2, none⟩ (.string ⟨#[]⟩)).heap[w.heap.size + 1]? = some (.cells #[.int .i64 0, .int .i64 0, .string ⟨#[]⟩] 23 (0, 0))) := (Below.heap_setCell _ _ _ _ (by show w.heap.size + 1 ≠ w.heap.size; omega)).trans ((Below.heap_setCell _ _ _ _ (by show w.heap.size + 1 ≠ w.heap.size; omega)).trans ((Below.heap_setCell _ _ _ _ (by show w.heap.size + 1 ≠ w.heap.size; omega)).trans (HO1.out)))
      go_wp2_with fail
      clear x0 x1 x2 y0 y1 y2 r0 r1 r2 f0 f1 f2
      generalize ((w1.setCell ⟨w.heap.size, 0, none⟩ (.int .i64 2)).setCell ⟨w.heap.size, 1, none⟩ (.int .i64 (n))).setCell ⟨w.heap.size, 2, none⟩ (.string ⟨#[]⟩) = W3 at *
      refine (rnull W3).mono ?_
      rintro e w2 ⟨rfl, hb2⟩
      have HO2 : Hid (w2.heap[w.heap.size + 1]? = some (.cells #[.int .i64 0, .int .i64 0, .string ⟨#[]⟩] 23 (0, 0))) := (hb2.block _ (Array.getElem?_eq_some_iff.1 HO3.out).1).trans HO3.out
      have HB2 : Hid (Below w.heap.size w w2) := HB3.out.trans (hb2.mono HB3.out.size)
      clear hb2
      obtain ⟨r0, r1, r2, f0, f1, f2⟩ := wcell HO2.out
      go_wp2
      refine bodyPost_ret (v := (.agg #[.int .i64 (0), .int .i64 (0), .string (⟨#[]⟩)])) (by simp [results, Tryd.results10, go_sem, *]) rfl ⟨rfl, ?_⟩
      exact (((HB2.out).setCell (by simp <;> omega) _).setCell (by simp <;> omega) _).setCell (by simp <;> omega) _
    · have g5 : ¬ kind < 1 := by omega
      rw [castV_no g1 g2 g3]
      go_enter Tryd.func10, Tryd.ntmps10
      go_wp2_with fail
      refine (rclean _ _ _ _).mono ?_
      rintro e w1 ⟨rfl, hb1⟩
      have hO0 : w1.heap[w.heap.size]? = some (.cells #[.int .i64 (2), .int .i64 n, .string s] 23 (0, 0)) := (hb1.block _ (by simp; omega)).trans ((heap_alloc_old (w.alloc (.cells #[.int .i64 (2), .int .i64 n, .string s] 23)) (.cells #[.int .i64 0, .int .i64 0, .string ⟨#[]⟩] 23) (by simp)).trans (heap_alloc_new w _))
      have hO1 : w1.heap[w.heap.size + 1]? = some (.cells #[.int .i64 0, .int .i64 0, .string ⟨#[]⟩] 23 (0, 0)) := (hb1.block _ (by simp)).trans (by have := heap_alloc_new (w.alloc (.cells #[.int .i64 (2), .int .i64 n, .string s] 23)) (.cells #[.int .i64 0, .int .i64 0, .string ⟨#[]⟩] 23); rw [show (w.alloc (.cells #[.int .i64 (2), .int .i64 n, .string s] 23)).heap.size = w.heap.size + 1 by simp] at this; exact this)
      obtain ⟨x0, x1, x2, y0, y1, y2⟩ := wcell hO0
      obtain ⟨r0, r1, r2, f0, f1, f2⟩ := wcell hO1
      have z1 : w.heap.size + 1 < w1.heap.size := (Array.getElem?_eq_some_iff.1 hO1).1
      have HO1 : Hid _ := hO1
      clear hO0 hO1
      have HB1 : Hid (Below w.heap.size w w1) := keepBelow (((Below.refl _ _).alloc (Nat.le_refl _) _).alloc (by simp) _) hb1
      clear hb1
      rw [show ck 2 = 2 from rfl, show cs 2 s = ⟨#[]⟩ from rfl, show cn 2 n = n from rfl]
      have HB3 : Hid (Below w.heap.size w (((w1.setCell ⟨w.heap.size, 0, none⟩ (.int .i64 2)).setCell ⟨w.heap.size, 1, none⟩ (.int .i64 (n))).setCell ⟨w.heap.size, 2, none⟩ (.string ⟨#[]⟩))) := (((HB1.out).setCell (by simp <;> omega) _).setCell (by simp <;> omega) _).setCell (by simp <;> omega) _
      have HO3 : Hid ((((w1.setCell ⟨w.heap.size, 0, none⟩ (.int .i64 2)).setCell ⟨w.heap.size, 1, none⟩ (.int .i64 (n))).setCell ⟨w.heap.size, 2, none⟩ (.string ⟨#[]⟩)).heap[w.heap.size + 1]? = some (.cells #[.int .i64 0, .int .i64 0, .string ⟨#[]⟩] 23 (0, 0))) := (Below.heap_setCell _ _ _ _ (by show w.heap.size + 1 ≠ w.heap.size; omega)).trans ((Below.heap_setCell _ _ _ _ (by show w.heap.size + 1 ≠ w.heap.size; omega)).trans ((Below.heap_setCell _ _ _ _ (by show w.heap.size + 1 ≠ w.heap.size; omega)).trans (HO1.out)))
      go_wp2_with fail
      clear x0 x1 x2 y0 y1 y2 r0 r1 r2 f0 f1 f2
      generalize ((w1.setCell ⟨w.heap.size, 0, none⟩ (.int .i64 2)).setCell ⟨w.heap.size, 1, none⟩ (.int .i64 (n))).setCell ⟨w.heap.size, 2, none⟩ (.string ⟨#[]⟩) = W3 at *
      refine (rnull W3).mono ?_
      rintro e w2 ⟨rfl, hb2⟩
      have HO2 : Hid (w2.heap[w.heap.size + 1]? = some (.cells #[.int .i64 0, .int .i64 0, .string ⟨#[]⟩] 23 (0, 0))) := (hb2.block _ (Array.getElem?_eq_some_iff.1 HO3.out).1).trans HO3.out
      have HB2 : Hid (Below w.heap.size w w2) := HB3.out.trans (hb2.mono HB3.out.size)
      clear hb2
      obtain ⟨r0, r1, r2, f0, f1, f2⟩ := wcell HO2.out
      go_wp2
      refine bodyPost_ret (v := (.agg #[.int .i64 (0), .int .i64 (0), .string (⟨#[]⟩)])) (by simp [results, Tryd.results10, go_sem, *]) rfl ⟨rfl, ?_⟩
      exact (((HB2.out).setCell (by simp <;> omega) _).setCell (by simp <;> omega) _).setCell (by simp <;> omega) _
  by_cases h3 : k = 3
  · subst h3
    by_cases g1 : kind = 1
    · subst g1
      exact rcast31 n s w
    by_cases g2 : kind = 2
    · subst g2
      have e9 : castV 3 n s 2 = wv s := rfl
      obtain ⟨kk, nn, e8⟩ := wv_form s
      rw [e9, e8]
      have E8 : Hid _ := e8
      clear e9 e8
      go_enter Tryd.func10, Tryd.ntmps10
      go_wp2_with fail
      refine (rclean _ _ _ _).mono ?_
      rintro e w1 ⟨rfl, hb1⟩
      have hO0 : w1.heap[w.heap.size]? = some (.cells #[.int .i64 (3), .int .i64 n, .string s] 23 (0, 0)) := (hb1.block _ (by simp; omega)).trans ((heap_alloc_old (w.alloc (.cells #[.int .i64 (3), .int .i64 n, .string s] 23)) (.cells #[.int .i64 0, .int .i64 0, .string ⟨#[]⟩] 23) (by simp)).trans (heap_alloc_new w _))
      have hO1 : w1.heap[w.heap.size + 1]? = some (.cells #[.int .i64 0, .int .i64 0, .string ⟨#[]⟩] 23 (0, 0)) := (hb1.block _ (by simp)).trans (by have := heap_alloc_new (w.alloc (.cells #[.int .i64 (3), .int .i64 n, .string s] 23)) (.cells #[.int .i64 0, .int .i64 0, .string ⟨#[]⟩] 23); rw [show (w.alloc (.cells #[.int .i64 (3), .int .i64 n, .string s] 23)).heap.size = w.heap.size + 1 by simp] at this; exact this)
      obtain ⟨x0, x1, x2, y0, y1, y2⟩ := wcell hO0
      obtain ⟨r0, r1, r2, f0, f1, f2⟩ := wcell hO1
      have z1 : w.heap.size + 1 < w1.heap.size := (Array.getElem?_eq_some_iff.1 hO1).1
      have HO1 : Hid _ := hO1
      clear hO0 hO1
      have HB1 : Hid (Below w.heap.size w w1) := keepBelow (((Below.refl _ _).alloc (Nat.le_refl _) _).alloc (by simp) _) hb1
      clear hb1
      rw [show ck 3 = 3 from rfl, show cs 3 s = s from rfl, show cn 3 n = 0 from rfl]
      have HB3 : Hid (Below w.heap.size w (((w1.setCell ⟨w.heap.size, 0, none⟩ (.int .i64 3)).setCell ⟨w.heap.size, 1, none⟩ (.int .i64 (0))).setCell ⟨w.heap.size, 2, none⟩ (.string s))) := (((HB1.out).setCell (by simp <;> omega) _).setCell (by simp <;> omega) _).setCell (by simp <;> omega) _
      have HO3 : Hid ((((w1.setCell ⟨w.heap.size, 0, none⟩ (.int .i64 3)).setCell ⟨w.heap.size, 1, none⟩ (.int .i64 (0))).setCell ⟨w.heap.size, 2, none⟩ (.string s)).heap[w.heap.size + 1]? = some (.cells #[.int .i64 0, .int .i64 0, .string ⟨#[]⟩] 23 (0, 0))) := (Below.heap_setCell _ _ _ _ (by show w.heap.size + 1 ≠ w.heap.size; omega)).trans ((Below.heap_setCell _ _ _ _ (by show w.heap.size + 1 ≠ w.heap.size; omega)).trans ((Below.heap_setCell _ _ _ _ (by show w.heap.size + 1 ≠ w.heap.size; omega)).trans (HO1.out)))
      go_wp2_with fail
      clear x0 x1 x2 y0 y1 y2 r0 r1 r2 f0 f1 f2
      generalize ((w1.setCell ⟨w.heap.size, 0, none⟩ (.int .i64 3)).setCell ⟨w.heap.size, 1, none⟩ (.int .i64 (0))).setCell ⟨w.heap.size, 2, none⟩ (.string s) = W3 at *
      refine (rwhole s W3 hs).mono ?_
      rintro e w2 ⟨he, hb2⟩
      have HO2 : Hid (w2.heap[w.heap.size + 1]? = some (.cells #[.int .i64 0, .int .i64 0, .string ⟨#[]⟩] 23 (0, 0))) := (hb2.block _ (Array.getElem?_eq_some_iff.1 HO3.out).1).trans HO3.out
      have HB2 : Hid (Below w.heap.size w w2) := HB3.out.trans (hb2.mono HB3.out.size)
      clear hb2
      rw [E8.out] at he
      subst he
      obtain ⟨r0, r1, r2, f0, f1, f2⟩ := wcell HO2.out
      go_wp2
      refine bodyPost_ret (v := (.agg #[.int .i64 (kk), .int .i64 (nn), .string (⟨#[]⟩)])) (by simp [results, Tryd.results10, go_sem, *]) rfl ⟨rfl, ?_⟩
      exact (((HB2.out).setCell (by simp <;> omega) _).setCell (by simp <;> omega) _).setCell (by simp <;> omega) _
    by_cases g3 : kind = 3
    · subst g3
      have e9 : castV 3 n s 3 = (.agg #[.int .i64 (3), .int .i64 (0), .string (s)]) := rfl
      rw [e9]
      clear e9
      go_enter Tryd.func10, Tryd.ntmps10
      go_wp2_with fail
      refine (rclean _ _ _ _).mono ?_
      rintro e w1 ⟨rfl, hb1⟩
      have hO0 : w1.heap[w.heap.size]? = some (.cells #[.int .i64 (3), .int .i64 n, .string s] 23 (0, 0)) := (hb1.block _ (by simp; omega)).trans ((heap_alloc_old (w.alloc (.cells #[.int .i64 (3), .int .i64 n, .string s] 23)) (.cells #[.int .i64 0, .int .i64 0, .string ⟨#[]⟩] 23) (by simp)).trans (heap_alloc_new w _))
      have hO1 : w1.heap[w.heap.size + 1]? = some (.cells #[.int .i64 0, .int .i64 0, .string ⟨#[]⟩] 23 (0, 0)) := (hb1.block _ (by simp)).trans (by have := heap_alloc_new (w.alloc (.cells #[.int .i64 (3), .int .i64 n, .string s] 23)) (.cells #[.int .i64 0, .int .i64 0, .string ⟨#[]⟩] 23); rw [show (w.alloc (.cells #[.int .i64 (3), .int .i64 n, .string s] 23)).heap.size = w.heap.size + 1 by simp] at this; exact this)
      obtain ⟨x0, x1, x2, y0, y1, y2⟩ := wcell hO0
      obtain ⟨r0, r1, r2, f0, f1, f2⟩ := wcell hO1
      have z1 : w.heap.size + 1 < w1.heap.size := (Array.getElem?_eq_some_iff.1 hO1).1
      have HO1 : Hid _ := hO1
      clear hO0 hO1
      have HB1 : Hid (Below w.heap.size w w1) := keepBelow (((Below.refl _ _).alloc (Nat.le_refl _) _).alloc (by simp) _) hb1
      clear hb1
      rw [show ck 3 = 3 from rfl, show cs 3 s = s from rfl, show cn 3 n = 0 from rfl]
      go_wp2
      refine bodyPost_ret (v := (.agg #[.int .i64 (3), .int .i64 (0), .string (s)])) (by simp [results, Tryd.results10, go_sem, *]) rfl ⟨rfl, ?_⟩
      exact ((((((HB1.out).setCell (by simp <;> omega) _).setCell (by simp <;> omega) _).setCell (by simp <;> omega) _).setCell (by simp <;> omega) _).setCell (by simp <;> omega) _).setCell (by simp <;> omega) _
    rcases (show kind < 1 ∨ 3 < kind by omega) with g4 | g4
    ·
      rw [castV_no g1 g2 g3]
      go_enter Tryd.func10, Tryd.ntmps10
      go_wp2_with fail
      refine (rclean _ _ _ _).mono ?_
      rintro e w1 ⟨rfl, hb1⟩
      have hO0 : w1.heap[w.heap.size]? = some (.cells #[.int .i64 (3), .int .i64 n, .string s] 23 (0, 0)) := (hb1.block _ (by simp; omega)).trans ((heap_alloc_old (w.alloc (.cells #[.int .i64 (3), .int .i64 n, .string s] 23)) (.cells #[.int .i64 0, .int .i64 0, .string ⟨#[]⟩] 23) (by simp)).trans (heap_alloc_new w _))
      have hO1 : w1.heap[w.heap.size + 1]? = some (.cells #[.int .i64 0, .int .i64 0, .string ⟨#[]⟩] 23 (0, 0)) := (hb1.block _ (by simp)).trans (by have := heap_alloc_new (w.alloc (.cells #[.int .i64 (3), .int .i64 n, .string s] 23)) (.cells #[.int .i64 0, .int .i64 0, .string ⟨#[]⟩] 23); rw [show (w.alloc (.cells #[.int .i64 (3), .int .i64 n, .string s] 23)).heap.size = w.heap.size + 1 by simp] at this; exact this)
      obtain ⟨x0, x1, x2, y0, y1, y2⟩ := wcell hO0
      obtain ⟨r0, r1, r2, f0, f1, f2⟩ := wcell hO1
      have z1 : w.heap.size + 1 < w1.heap.size := (Array.getElem?_eq_some_iff.1 hO1).1
      have HO1 : Hid _ := hO1
      clear hO0 hO1
      have HB1 : Hid (Below w.heap.size w w1) := keepBelow (((Below.refl _ _).alloc (Nat.le_refl _) _).alloc (by simp) _) hb1
      clear hb1
      rw [show ck 3 = 3 from rfl, show cs 3 s = s from rfl, show cn 3 n = 0 from rfl]
      have HB3 : Hid (Below w.heap.size w (((w1.setCell ⟨w.heap.size, 0, none⟩ (.int .i64 3)).setCell ⟨w.heap.size, 1, none⟩ (.int .i64 (0))).setCell ⟨w.heap.size, 2, none⟩ (.string s))) := (((HB1.out).setCell (by simp <;> omega) _).setCell (by simp <;> omega) _).setCell (by simp <;> omega) _
      have HO3 : Hid ((((w1.setCell ⟨w.heap.size, 0, none⟩ (.int .i64 3)).setCell ⟨w.heap.size, 1, none⟩ (.int .i64 (0))).setCell ⟨w.heap.size, 2, none⟩ (.string s)).heap[w.heap.size + 1]? = some (.cells #[.int .i64 0, .int .i64 0, .string ⟨#[]⟩] 23 (0, 0))) := (Below.heap_setCell _ _ _ _ (by show w.heap.size + 1 ≠ w.heap.size; omega)).trans ((Below.heap_setCell _ _ _ _ (by show w.heap.size + 1 ≠ w.heap.size; omega)).trans ((Below.heap_setCell _ _ _ _ (by show w.heap.size + 1 ≠ w.heap.size; omega)).trans (HO1.out)))
      go_wp2_with fail
      clear x0 x1 x2 y0 y1 y2 r0 r1 r2 f0 f1 f2
      generalize ((w1.setCell ⟨w.heap.size, 0, none⟩ (.int .i64 3)).setCell ⟨w.heap.size, 1, none⟩ (.int .i64 (0))).setCell ⟨w.heap.size, 2, none⟩ (.string s) = W3 at *
      refine (rnull W3).mono ?_
      rintro e w2 ⟨rfl, hb2⟩
      have HO2 : Hid (w2.heap[w.heap.size + 1]? = some (.cells #[.int .i64 0, .int .i64 0, .string ⟨#[]⟩] 23 (0, 0))) := (hb2.block _ (Array.getElem?_eq_some_iff.1 HO3.out).1).trans HO3.out
      have HB2 : Hid (Below w.heap.size w w2) := HB3.out.trans (hb2.mono HB3.out.size)
      clear hb2
      obtain ⟨r0, r1, r2, f0, f1, f2⟩ := wcell HO2.out
      go_wp2
      refine bodyPost_ret (v := (.agg #[.int .i64 (0), .int .i64 (0), .string (⟨#[]⟩)])) (by simp [results, Tryd.results10, go_sem, *]) rfl ⟨rfl, ?_⟩
      exact (((HB2.out).setCell (by simp <;> omega) _).setCell (by simp <;> omega) _).setCell (by simp <;> omega) _
    · have g5 : ¬ kind < 1 := by omega
      rw [castV_no g1 g2 g3]
      go_enter Tryd.func10, Tryd.ntmps10
      go_wp2_with fail
      refine (rclean _ _ _ _).mono ?_
      rintro e w1 ⟨rfl, hb1⟩
      have hO0 : w1.heap[w.heap.size]? = some (.cells #[.int .i64 (3), .int .i64 n, .string s] 23 (0, 0)) := (hb1.block _ (by simp; omega)).trans ((heap_alloc_old (w.alloc (.cells #[.int .i64 (3), .int .i64 n, .string s] 23)) (.cells #[.int .i64 0, .int .i64 0, .string ⟨#[]⟩] 23) (by simp)).trans (heap_alloc_new w _))
      have hO1 : w1.heap[w.heap.size + 1]? = some (.cells #[.int .i64 0, .int .i64 0, .string ⟨#[]⟩] 23 (0, 0)) := (hb1.block _ (by simp)).trans (by have := heap_alloc_new (w.alloc (.cells #[.int .i64 (3), .int .i64 n, .string s] 23)) (.cells #[.int .i64 0, .int .i64 0, .string ⟨#[]⟩] 23); rw [show (w.alloc (.cells #[.int .i64 (3), .int .i64 n, .string s] 23)).heap.size = w.heap.size + 1 by simp] at this; exact this)
      obtain ⟨x0, x1, x2, y0, y1, y2⟩ := wcell hO0
      obtain ⟨r0, r1, r2, f0, f1, f2⟩ := wcell hO1
      have z1 : w.heap.size + 1 < w1.heap.size := (Array.getElem?_eq_some_iff.1 hO1).1
      have HO1 : Hid _ := hO1
      clear hO0 hO1
      have HB1 : Hid (Below w.heap.size w w1) := keepBelow (((Below.refl _ _).alloc (Nat.le_refl _) _).alloc (by simp) _) hb1
      clear hb1
      rw [show ck 3 = 3 from rfl, show cs 3 s = s from rfl, show cn 3 n = 0 from rfl]
      have HB3 : Hid (Below w.heap.size w (((w1.setCell ⟨w.heap.size, 0, none⟩ (.int .i64 3)).setCell ⟨w.heap.size, 1, none⟩ (.int .i64 (0))).setCell ⟨w.heap.size, 2, none⟩ (.string s))) := (((HB1.out).setCell (by simp <;> omega) _).setCell (by simp <;> omega) _).setCell (by simp <;> omega) _
      have HO3 : Hid ((((w1.setCell ⟨w.heap.size, 0, none⟩ (.int .i64 3)).setCell ⟨w.heap.size, 1, none⟩ (.int .i64 (0))).setCell ⟨w.heap.size, 2, none⟩ (.string s)).heap[w.heap.size + 1]? = some (.cells #[.int .i64 0, .int .i64 0, .string ⟨#[]⟩] 23 (0, 0))) := (Below.heap_setCell _ _ _ _ (by show w.heap.size + 1 ≠ w.heap.size; omega)).trans ((Below.heap_setCell _ _ _ _ (by show w.heap.size + 1 ≠ w.heap.size; omega)).trans ((Below.heap_setCell _ _ _ _ (by show w.heap.size + 1 ≠ w.heap.size; omega)).trans (HO1.out)))
      go_wp2_with fail
      clear x0 x1 x2 y0 y1 y2 r0 r1 r2 f0 f1 f2
      generalize ((w1.setCell ⟨w.heap.size, 0, none⟩ (.int .i64 3)).setCell ⟨w.heap.size, 1, none⟩ (.int .i64 (0))).setCell ⟨w.heap.size, 2, none⟩ (.string s) = W3 at *
      refine (rnull W3).mono ?_
      rintro e w2 ⟨rfl, hb2⟩
      have HO2 : Hid (w2.heap[w.heap.size + 1]? = some (.cells #[.int .i64 0, .int .i64 0, .string ⟨#[]⟩] 23 (0, 0))) := (hb2.block _ (Array.getElem?_eq_some_iff.1 HO3.out).1).trans HO3.out
      have HB2 : Hid (Below w.heap.size w w2) := HB3.out.trans (hb2.mono HB3.out.size)
      clear hb2
      obtain ⟨r0, r1, r2, f0, f1, f2⟩ := wcell HO2.out
      go_wp2
      refine bodyPost_ret (v := (.agg #[.int .i64 (0), .int .i64 (0), .string (⟨#[]⟩)])) (by simp [results, Tryd.results10, go_sem, *]) rfl ⟨rfl, ?_⟩
      exact (((HB2.out).setCell (by simp <;> omega) _).setCell (by simp <;> omega) _).setCell (by simp <;> omega) _
  by_cases g1 : kind = 1
  · subst g1
    rw [castV_nul h1 h2 h3]
    have hk : ck k = 0 := by unfold ck; rw [if_neg h1, if_neg h2, if_neg h3]
    have hkn : cn k n = 0 := by unfold cn; rw [if_neg h1, if_neg h2]
    have hks : cs k s = ⟨#[]⟩ := if_neg h3
    go_enter Tryd.func10, Tryd.ntmps10
    go_wp2_with fail
    refine (rclean _ _ _ _).mono ?_
    rintro e w1 ⟨rfl, hb1⟩
    have hO0 : w1.heap[w.heap.size]? = some (.cells #[.int .i64 (k), .int .i64 n, .string s] 23 (0, 0)) := (hb1.block _ (by simp; omega)).trans ((heap_alloc_old (w.alloc (.cells #[.int .i64 (k), .int .i64 n, .string s] 23)) (.cells #[.int .i64 0, .int .i64 0, .string ⟨#[]⟩] 23) (by simp)).trans (heap_alloc_new w _))
    have hO1 : w1.heap[w.heap.size + 1]? = some (.cells #[.int .i64 0, .int .i64 0, .string ⟨#[]⟩] 23 (0, 0)) := (hb1.block _ (by simp)).trans (by have := heap_alloc_new (w.alloc (.cells #[.int .i64 (k), .int .i64 n, .string s] 23)) (.cells #[.int .i64 0, .int .i64 0, .string ⟨#[]⟩] 23); rw [show (w.alloc (.cells #[.int .i64 (k), .int .i64 n, .string s] 23)).heap.size = w.heap.size + 1 by simp] at this; exact this)
    obtain ⟨x0, x1, x2, y0, y1, y2⟩ := wcell hO0
    obtain ⟨r0, r1, r2, f0, f1, f2⟩ := wcell hO1
    have z1 : w.heap.size + 1 < w1.heap.size := (Array.getElem?_eq_some_iff.1 hO1).1
    have HO1 : Hid _ := hO1
    clear hO0 hO1
    have HB1 : Hid (Below w.heap.size w w1) := keepBelow (((Below.refl _ _).alloc (Nat.le_refl _) _).alloc (by simp) _) hb1
    clear hb1
    rw [hk, hkn, hks]
    clear hk hkn hks
    have HB3 : Hid (Below w.heap.size w (((w1.setCell ⟨w.heap.size, 0, none⟩ (.int .i64 0)).setCell ⟨w.heap.size, 1, none⟩ (.int .i64 0)).setCell ⟨w.heap.size, 2, none⟩ (.string ⟨#[]⟩))) := (((HB1.out).setCell (by simp <;> omega) _).setCell (by simp <;> omega) _).setCell (by simp <;> omega) _
    have HO3 : Hid ((((w1.setCell ⟨w.heap.size, 0, none⟩ (.int .i64 0)).setCell ⟨w.heap.size, 1, none⟩ (.int .i64 0)).setCell ⟨w.heap.size, 2, none⟩ (.string ⟨#[]⟩)).heap[w.heap.size + 1]? = some (.cells #[.int .i64 0, .int .i64 0, .string ⟨#[]⟩] 23 (0, 0))) := (Below.heap_setCell _ _ _ _ (by show w.heap.size + 1 ≠ w.heap.size; omega)).trans ((Below.heap_setCell _ _ _ _ (by show w.heap.size + 1 ≠ w.heap.size; omega)).trans ((Below.heap_setCell _ _ _ _ (by show w.heap.size + 1 ≠ w.heap.size; omega)).trans (HO1.out)))
    go_wp2_with fail
    clear x0 x1 x2 y0 y1 y2 r0 r1 r2 f0 f1 f2
    generalize ((w1.setCell ⟨w.heap.size, 0, none⟩ (.int .i64 0)).setCell ⟨w.heap.size, 1, none⟩ (.int .i64 0)).setCell ⟨w.heap.size, 2, none⟩ (.string ⟨#[]⟩) = W3 at *
    refine (rnull W3).mono ?_
    rintro e w2 ⟨rfl, hb2⟩
    have HO2 : Hid (w2.heap[w.heap.size + 1]? = some (.cells #[.int .i64 0, .int .i64 0, .string ⟨#[]⟩] 23 (0, 0))) := (hb2.block _ (Array.getElem?_eq_some_iff.1 HO3.out).1).trans HO3.out
    have HB2 : Hid (Below w.heap.size w w2) := HB3.out.trans (hb2.mono HB3.out.size)
    clear hb2
    obtain ⟨r0, r1, r2, f0, f1, f2⟩ := wcell HO2.out
    go_wp2
    refine bodyPost_ret (v := (.agg #[.int .i64 (0), .int .i64 (0), .string (⟨#[]⟩)])) (by simp [results, Tryd.results10, go_sem, *]) rfl ⟨rfl, ?_⟩
    exact (((HB2.out).setCell (by simp <;> omega) _).setCell (by simp <;> omega) _).setCell (by simp <;> omega) _
  by_cases g2 : kind = 2
  · subst g2
    rw [castV_nul h1 h2 h3]
    have hk : ck k = 0 := by unfold ck; rw [if_neg h1, if_neg h2, if_neg h3]
    have hkn : cn k n = 0 := by unfold cn; rw [if_neg h1, if_neg h2]
    have hks : cs k s = ⟨#[]⟩ := if_neg h3
    go_enter Tryd.func10, Tryd.ntmps10
    go_wp2_with fail
    refine (rclean _ _ _ _).mono ?_
    rintro e w1 ⟨rfl, hb1⟩
    have hO0 : w1.heap[w.heap.size]? = some (.cells #[.int .i64 (k), .int .i64 n, .string s] 23 (0, 0)) := (hb1.block _ (by simp; omega)).trans ((heap_alloc_old (w.alloc (.cells #[.int .i64 (k), .int .i64 n, .string s] 23)) (.cells #[.int .i64 0, .int .i64 0, .string ⟨#[]⟩] 23) (by simp)).trans (heap_alloc_new w _))
    have hO1 : w1.heap[w.heap.size + 1]? = some (.cells #[.int .i64 0, .int .i64 0, .string ⟨#[]⟩] 23 (0, 0)) := (hb1.block _ (by simp)).trans (by have := heap_alloc_new (w.alloc (.cells #[.int .i64 (k), .int .i64 n, .string s] 23)) (.cells #[.int .i64 0, .int .i64 0, .string ⟨#[]⟩] 23); rw [show (w.alloc (.cells #[.int .i64 (k), .int .i64 n, .string s] 23)).heap.size = w.heap.size + 1 by simp] at this; exact this)
    obtain ⟨x0, x1, x2, y0, y1, y2⟩ := wcell hO0
    obtain ⟨r0, r1, r2, f0, f1, f2⟩ := wcell hO1
    have z1 : w.heap.size + 1 < w1.heap.size := (Array.getElem?_eq_some_iff.1 hO1).1
    have HO1 : Hid _ := hO1
    clear hO0 hO1
    have HB1 : Hid (Below w.heap.size w w1) := keepBelow (((Below.refl _ _).alloc (Nat.le_refl _) _).alloc (by simp) _) hb1
    clear hb1
    rw [hk, hkn, hks]
    clear hk hkn hks
    have HB3 : Hid (Below w.heap.size w (((w1.setCell ⟨w.heap.size, 0, none⟩ (.int .i64 0)).setCell ⟨w.heap.size, 1, none⟩ (.int .i64 0)).setCell ⟨w.heap.size, 2, none⟩ (.string ⟨#[]⟩))) := (((HB1.out).setCell (by simp <;> omega) _).setCell (by simp <;> omega) _).setCell (by simp <;> omega) _
    have HO3 : Hid ((((w1.setCell ⟨w.heap.size, 0, none⟩ (.int .i64 0)).setCell ⟨w.heap.size, 1, none⟩ (.int .i64 0)).setCell ⟨w.heap.size, 2, none⟩ (.string ⟨#[]⟩)).heap[w.heap.size + 1]? = some (.cells #[.int .i64 0, .int .i64 0, .string ⟨#[]⟩] 23 (0, 0))) := (Below.heap_setCell _ _ _ _ (by show w.heap.size + 1 ≠ w.heap.size; omega)).trans ((Below.heap_setCell _ _ _ _ (by show w.heap.size + 1 ≠ w.heap.size; omega)).trans ((Below.heap_setCell _ _ _ _ (by show w.heap.size + 1 ≠ w.heap.size; omega)).trans (HO1.out)))
    go_wp2_with fail
    clear x0 x1 x2 y0 y1 y2 r0 r1 r2 f0 f1 f2
    generalize ((w1.setCell ⟨w.heap.size, 0, none⟩ (.int .i64 0)).setCell ⟨w.heap.size, 1, none⟩ (.int .i64 0)).setCell ⟨w.heap.size, 2, none⟩ (.string ⟨#[]⟩) = W3 at *
    refine (rnull W3).mono ?_
    rintro e w2 ⟨rfl, hb2⟩
    have HO2 : Hid (w2.heap[w.heap.size + 1]? = some (.cells #[.int .i64 0, .int .i64 0, .string ⟨#[]⟩] 23 (0, 0))) := (hb2.block _ (Array.getElem?_eq_some_iff.1 HO3.out).1).trans HO3.out
    have HB2 : Hid (Below w.heap.size w w2) := HB3.out.trans (hb2.mono HB3.out.size)
    clear hb2
    obtain ⟨r0, r1, r2, f0, f1, f2⟩ := wcell HO2.out
    go_wp2
    refine bodyPost_ret (v := (.agg #[.int .i64 (0), .int .i64 (0), .string (⟨#[]⟩)])) (by simp [results, Tryd.results10, go_sem, *]) rfl ⟨rfl, ?_⟩
    exact (((HB2.out).setCell (by simp <;> omega) _).setCell (by simp <;> omega) _).setCell (by simp <;> omega) _
  by_cases g3 : kind = 3
  · subst g3
    rw [castV_nul h1 h2 h3]
    have hk : ck k = 0 := by unfold ck; rw [if_neg h1, if_neg h2, if_neg h3]
    have hkn : cn k n = 0 := by unfold cn; rw [if_neg h1, if_neg h2]
    have hks : cs k s = ⟨#[]⟩ := if_neg h3
    go_enter Tryd.func10, Tryd.ntmps10
    go_wp2_with fail
    refine (rclean _ _ _ _).mono ?_
    rintro e w1 ⟨rfl, hb1⟩
    have hO0 : w1.heap[w.heap.size]? = some (.cells #[.int .i64 (k), .int .i64 n, .string s] 23 (0, 0)) := (hb1.block _ (by simp; omega)).trans ((heap_alloc_old (w.alloc (.cells #[.int .i64 (k), .int .i64 n, .string s] 23)) (.cells #[.int .i64 0, .int .i64 0, .string ⟨#[]⟩] 23) (by simp)).trans (heap_alloc_new w _))
    have hO1 : w1.heap[w.heap.size + 1]? = some (.cells #[.int .i64 0, .int .i64 0, .string ⟨#[]⟩] 23 (0, 0)) := (hb1.block _ (by simp)).trans (by have := heap_alloc_new (w.alloc (.cells #[.int .i64 (k), .int .i64 n, .string s] 23)) (.cells #[.int .i64 0, .int .i64 0, .string ⟨#[]⟩] 23); rw [show (w.alloc (.cells #[.int .i64 (k), .int .i64 n, .string s] 23)).heap.size = w.heap.size + 1 by simp] at this; exact this)
    obtain ⟨x0, x1, x2, y0, y1, y2⟩ := wcell hO0
    obtain ⟨r0, r1, r2, f0, f1, f2⟩ := wcell hO1
    have z1 : w.heap.size + 1 < w1.heap.size := (Array.getElem?_eq_some_iff.1 hO1).1
    have HO1 : Hid _ := hO1
    clear hO0 hO1
    have HB1 : Hid (Below w.heap.size w w1) := keepBelow (((Below.refl _ _).alloc (Nat.le_refl _) _).alloc (by simp) _) hb1
    clear hb1
    rw [hk, hkn, hks]
    clear hk hkn hks
    have HB3 : Hid (Below w.heap.size w (((w1.setCell ⟨w.heap.size, 0, none⟩ (.int .i64 0)).setCell ⟨w.heap.size, 1, none⟩ (.int .i64 0)).setCell ⟨w.heap.size, 2, none⟩ (.string ⟨#[]⟩))) := (((HB1.out).setCell (by simp <;> omega) _).setCell (by simp <;> omega) _).setCell (by simp <;> omega) _
    have HO3 : Hid ((((w1.setCell ⟨w.heap.size, 0, none⟩ (.int .i64 0)).setCell ⟨w.heap.size, 1, none⟩ (.int .i64 0)).setCell ⟨w.heap.size, 2, none⟩ (.string ⟨#[]⟩)).heap[w.heap.size + 1]? = some (.cells #[.int .i64 0, .int .i64 0, .string ⟨#[]⟩] 23 (0, 0))) := (Below.heap_setCell _ _ _ _ (by show w.heap.size + 1 ≠ w.heap.size; omega)).trans ((Below.heap_setCell _ _ _ _ (by show w.heap.size + 1 ≠ w.heap.size; omega)).trans ((Below.heap_setCell _ _ _ _ (by show w.heap.size + 1 ≠ w.heap.size; omega)).trans (HO1.out)))
    go_wp2_with fail
    clear x0 x1 x2 y0 y1 y2 r0 r1 r2 f0 f1 f2
    generalize ((w1.setCell ⟨w.heap.size, 0, none⟩ (.int .i64 0)).setCell ⟨w.heap.size, 1, none⟩ (.int .i64 0)).setCell ⟨w.heap.size, 2, none⟩ (.string ⟨#[]⟩) = W3 at *
    refine (rnull W3).mono ?_
    rintro e w2 ⟨rfl, hb2⟩
    have HO2 : Hid (w2.heap[w.heap.size + 1]? = some (.cells #[.int .i64 0, .int .i64 0, .string ⟨#[]⟩] 23 (0, 0))) := (hb2.block _ (Array.getElem?_eq_some_iff.1 HO3.out).1).trans HO3.out
    have HB2 : Hid (Below w.heap.size w w2) := HB3.out.trans (hb2.mono HB3.out.size)
    clear hb2
    obtain ⟨r0, r1, r2, f0, f1, f2⟩ := wcell HO2.out
    go_wp2
    refine bodyPost_ret (v := (.agg #[.int .i64 (0), .int .i64 (0), .string (⟨#[]⟩)])) (by simp [results, Tryd.results10, go_sem, *]) rfl ⟨rfl, ?_⟩
    exact (((HB2.out).setCell (by simp <;> omega) _).setCell (by simp <;> omega) _).setCell (by simp <;> omega) _
  rcases (show kind < 1 ∨ 3 < kind by omega) with g4 | g4
  ·
    rw [castV_nul h1 h2 h3]
    have hk : ck k = 0 := by unfold ck; rw [if_neg h1, if_neg h2, if_neg h3]
    have hkn : cn k n = 0 := by unfold cn; rw [if_neg h1, if_neg h2]
    have hks : cs k s = ⟨#[]⟩ := if_neg h3
    go_enter Tryd.func10, Tryd.ntmps10
    go_wp2_with fail
    refine (rclean _ _ _ _).mono ?_
    rintro e w1 ⟨rfl, hb1⟩
    have hO0 : w1.heap[w.heap.size]? = some (.cells #[.int .i64 (k), .int .i64 n, .string s] 23 (0, 0)) := (hb1.block _ (by simp; omega)).trans ((heap_alloc_old (w.alloc (.cells #[.int .i64 (k), .int .i64 n, .string s] 23)) (.cells #[.int .i64 0, .int .i64 0, .string ⟨#[]⟩] 23) (by simp)).trans (heap_alloc_new w _))
    have hO1 : w1.heap[w.heap.size + 1]? = some (.cells #[.int .i64 0, .int .i64 0, .string ⟨#[]⟩] 23 (0, 0)) := (hb1.block _ (by simp)).trans (by have := heap_alloc_new (w.alloc (.cells #[.int .i64 (k), .int .i64 n, .string s] 23)) (.cells #[.int .i64 0, .int .i64 0, .string ⟨#[]⟩] 23); rw [show (w.alloc (.cells #[.int .i64 (k), .int .i64 n, .string s] 23)).heap.size = w.heap.size + 1 by simp] at this; exact this)
    obtain ⟨x0, x1, x2, y0, y1, y2⟩ := wcell hO0
    obtain ⟨r0, r1, r2, f0, f1, f2⟩ := wcell hO1
    have z1 : w.heap.size + 1 < w1.heap.size := (Array.getElem?_eq_some_iff.1 hO1).1
    have HO1 : Hid _ := hO1
    clear hO0 hO1
    have HB1 : Hid (Below w.heap.size w w1) := keepBelow (((Below.refl _ _).alloc (Nat.le_refl _) _).alloc (by simp) _) hb1
    clear hb1
    rw [hk, hkn, hks]
    clear hk hkn hks
    have HB3 : Hid (Below w.heap.size w (((w1.setCell ⟨w.heap.size, 0, none⟩ (.int .i64 0)).setCell ⟨w.heap.size, 1, none⟩ (.int .i64 0)).setCell ⟨w.heap.size, 2, none⟩ (.string ⟨#[]⟩))) := (((HB1.out).setCell (by simp <;> omega) _).setCell (by simp <;> omega) _).setCell (by simp <;> omega) _
    have HO3 : Hid ((((w1.setCell ⟨w.heap.size, 0, none⟩ (.int .i64 0)).setCell ⟨w.heap.size, 1, none⟩ (.int .i64 0)).setCell ⟨w.heap.size, 2, none⟩ (.string ⟨#[]⟩)).heap[w.heap.size + 1]? = some (.cells #[.int .i64 0, .int .i64 0, .string ⟨#[]⟩] 23 (0, 0))) := (Below.heap_setCell _ _ _ _ (by show w.heap.size + 1 ≠ w.heap.size; omega)).trans ((Below.heap_setCell _ _ _ _ (by show w.heap.size + 1 ≠ w.heap.size; omega)).trans ((Below.heap_setCell _ _ _ _ (by show w.heap.size + 1 ≠ w.heap.size; omega)).trans (HO1.out)))
    go_wp2_with fail
    clear x0 x1 x2 y0 y1 y2 r0 r1 r2 f0 f1 f2
    generalize ((w1.setCell ⟨w.heap.size, 0, none⟩ (.int .i64 0)).setCell ⟨w.heap.size, 1, none⟩ (.int .i64 0)).setCell ⟨w.heap.size, 2, none⟩ (.string ⟨#[]⟩) = W3 at *
    refine (rnull W3).mono ?_
    rintro e w2 ⟨rfl, hb2⟩
    have HO2 : Hid (w2.heap[w.heap.size + 1]? = some (.cells #[.int .i64 0, .int .i64 0, .string ⟨#[]⟩] 23 (0, 0))) := (hb2.block _ (Array.getElem?_eq_some_iff.1 HO3.out).1).trans HO3.out
    have HB2 : Hid (Below w.heap.size w w2) := HB3.out.trans (hb2.mono HB3.out.size)
    clear hb2
    obtain ⟨r0, r1, r2, f0, f1, f2⟩ := wcell HO2.out
    go_wp2
    refine bodyPost_ret (v := (.agg #[.int .i64 (0), .int .i64 (0), .string (⟨#[]⟩)])) (by simp [results, Tryd.results10, go_sem, *]) rfl ⟨rfl, ?_⟩
    exact (((HB2.out).setCell (by simp <;> omega) _).setCell (by simp <;> omega) _).setCell (by simp <;> omega) _
  · have g5 : ¬ kind < 1 := by omega
    rw [castV_nul h1 h2 h3]
    have hk : ck k = 0 := by unfold ck; rw [if_neg h1, if_neg h2, if_neg h3]
    have hkn : cn k n = 0 := by unfold cn; rw [if_neg h1, if_neg h2]
    have hks : cs k s = ⟨#[]⟩ := if_neg h3
    go_enter Tryd.func10, Tryd.ntmps10
    go_wp2_with fail
    refine (rclean _ _ _ _).mono ?_
    rintro e w1 ⟨rfl, hb1⟩
    have hO0 : w1.heap[w.heap.size]? = some (.cells #[.int .i64 (k), .int .i64 n, .string s] 23 (0, 0)) := (hb1.block _ (by simp; omega)).trans ((heap_alloc_old (w.alloc (.cells #[.int .i64 (k), .int .i64 n, .string s] 23)) (.cells #[.int .i64 0, .int .i64 0, .string ⟨#[]⟩] 23) (by simp)).trans (heap_alloc_new w _))
    have hO1 : w1.heap[w.heap.size + 1]? = some (.cells #[.int .i64 0, .int .i64 0, .string ⟨#[]⟩] 23 (0, 0)) := (hb1.block _ (by simp)).trans (by have := heap_alloc_new (w.alloc (.cells #[.int .i64 (k), .int .i64 n, .string s] 23)) (.cells #[.int .i64 0, .int .i64 0, .string ⟨#[]⟩] 23); rw [show (w.alloc (.cells #[.int .i64 (k), .int .i64 n, .string s] 23)).heap.size = w.heap.size + 1 by simp] at this; exact this)
    obtain ⟨x0, x1, x2, y0, y1, y2⟩ := wcell hO0
    obtain ⟨r0, r1, r2, f0, f1, f2⟩ := wcell hO1
    have z1 : w.heap.size + 1 < w1.heap.size := (Array.getElem?_eq_some_iff.1 hO1).1
    have HO1 : Hid _ := hO1
    clear hO0 hO1
    have HB1 : Hid (Below w.heap.size w w1) := keepBelow (((Below.refl _ _).alloc (Nat.le_refl _) _).alloc (by simp) _) hb1
    clear hb1
    rw [hk, hkn, hks]
    clear hk hkn hks
    have HB3 : Hid (Below w.heap.size w (((w1.setCell ⟨w.heap.size, 0, none⟩ (.int .i64 0)).setCell ⟨w.heap.size, 1, none⟩ (.int .i64 0)).setCell ⟨w.heap.size, 2, none⟩ (.string ⟨#[]⟩))) := (((HB1.out).setCell (by simp <;> omega) _).setCell (by simp <;> omega) _).setCell (by simp <;> omega) _
    have HO3 : Hid ((((w1.setCell ⟨w.heap.size, 0, none⟩ (.int .i64 0)).setCell ⟨w.heap.size, 1, none⟩ (.int .i64 0)).setCell ⟨w.heap.size, 2, none⟩ (.string ⟨#[]⟩)).heap[w.heap.size + 1]? = some (.cells #[.int .i64 0, .int .i64 0, .string ⟨#[]⟩] 23 (0, 0))) := (Below.heap_setCell _ _ _ _ (by show w.heap.size + 1 ≠ w.heap.size; omega)).trans ((Below.heap_setCell _ _ _ _ (by show w.heap.size + 1 ≠ w.heap.size; omega)).trans ((Below.heap_setCell _ _ _ _ (by show w.heap.size + 1 ≠ w.heap.size; omega)).trans (HO1.out)))
    go_wp2_with fail
    clear x0 x1 x2 y0 y1 y2 r0 r1 r2 f0 f1 f2
    generalize ((w1.setCell ⟨w.heap.size, 0, none⟩ (.int .i64 0)).setCell ⟨w.heap.size, 1, none⟩ (.int .i64 0)).setCell ⟨w.heap.size, 2, none⟩ (.string ⟨#[]⟩) = W3 at *
    refine (rnull W3).mono ?_
    rintro e w2 ⟨rfl, hb2⟩
    have HO2 : Hid (w2.heap[w.heap.size + 1]? = some (.cells #[.int .i64 0, .int .i64 0, .string ⟨#[]⟩] 23 (0, 0))) := (hb2.block _ (Array.getElem?_eq_some_iff.1 HO3.out).1).trans HO3.out
    have HB2 : Hid (Below w.heap.size w w2) := HB3.out.trans (hb2.mono HB3.out.size)
    clear hb2
    obtain ⟨r0, r1, r2, f0, f1, f2⟩ := wcell HO2.out
    go_wp2
    refine bodyPost_ret (v := (.agg #[.int .i64 (0), .int .i64 (0), .string (⟨#[]⟩)])) (by simp [results, Tryd.results10, go_sem, *]) rfl ⟨rfl, ?_⟩
    exact (((HB2.out).setCell (by simp <;> omega) _).setCell (by simp <;> omega) _).setCell (by simp <;> omega) _
end Go.Proofs.YtmkfkjicfmllmaaDoor
