/- value.toNumber, value.toTruth -/
import Derived.Test.YtmkfkjicfmllmaaDoorTxt4
namespace Go.Proofs.YtmkfkjicfmllmaaDoor
open Go.RowKit
attribute [local go_sem ↓] Go.wp_at_zero Go.wp_at_succ
theorem bytesW {w : World} {t : TypeId} {x : ByteArray} : Below w.heap.size w (Lib.bytesWorld w t x) := Go.Joins.below_bytesWorld _ w t x (Nat.le_refl _)
set_option maxRecDepth 20000 in
set_option maxHeartbeats 1000000 in
theorem tonum1 (n : Int) (s : ByteArray) (w : World) :
    Calls Tryd.prog 21 #[(.agg #[.int .i64 (1), .int .i64 (n), .string (s)])] w fun e w' => e = .returned (.agg #[.int .i64 (2), .int .i64 (n), .string (⟨#[]⟩)]) ∧ Below w.heap.size w w' := by
  go_enter Tryd.func21, Tryd.ntmps21
  go_wp2_with fail
  refine (vnumber _ _).mono ?_
  rintro e w2 ⟨rfl, hb2⟩
  obtain ⟨hc2, hf2⟩ := bcell hb2; have za2 : w.heap.size < w2.heap.size := (by have := hb2.size; (try simp at this); omega); have zb2 : w.heap.size + 1 < w2.heap.size := (by have := hb2.size; (try simp at this); omega)
  go_wp2
  refine bodyPost_ret (v := (.agg #[.int .i64 (2), .int .i64 (n), .string (⟨#[]⟩)])) (by simp [results, Tryd.results21, go_sem, *]) rfl ⟨rfl, ?_⟩
  exact ((((keepBelow (((Below.refl _ _).alloc (Nat.le_refl _) _).alloc (by simp) _) hb2)).setCell (by simp <;> omega) _).setCell (by simp <;> omega) _).setCell (by simp <;> omega) _
set_option maxRecDepth 20000 in
set_option maxHeartbeats 1000000 in
theorem tonum3 (n : Int) (s : ByteArray) (w : World) (hs : s.size ≤ 1048576) (hv : Vs w) :
    Calls Tryd.prog 21 #[(.agg #[.int .i64 (3), .int .i64 (n), .string (s)])] w fun e w' => e = .returned (wv s) ∧ Below w.heap.size w w' := by
  by_cases h0 : s.size = 0
  · have HW : Hid _ := wv_nil h0
    have hE : s.toList.isEmpty = true := by rw [empB, decide_eq_true h0]
    have hEl : s.toList = [] := by simpa using hE
    go_enter Tryd.func21, Tryd.ntmps21
    go_wp2_with fail
    first | (go_quiet (fail); go_wp2) | skip
    refine bodyPost_ret (v := (.agg #[.int .i64 (0), .int .i64 (0), .string (⟨#[]⟩)])) (by simp [results, Tryd.results21, go_sem, *]) rfl ⟨by rw [HW.out], ?_⟩
    first | exact (((Below.refl _ _).alloc (Nat.le_refl _) _).alloc (by simp) _) | exact ((((((Below.refl _ _).alloc (Nat.le_refl _) _).alloc (by simp) _)).setCell (by simp <;> omega) _).setCell (by simp <;> omega) _).setCell (by simp <;> omega) _ | exact below_dw (((Below.refl _ _).alloc (Nat.le_refl _) _).alloc (by simp) _) | exact ((((below_dw (((Below.refl _ _).alloc (Nat.le_refl _) _).alloc (by simp) _))).setCell (by simp <;> omega) _).setCell (by simp <;> omega) _).setCell (by simp <;> omega) _
  · have h1 : 0 < s.size := by omega
    have hE : s.toList.isEmpty = false := by rw [empB, decide_eq_false h0]
    have hEl : ¬ s.toList = [] := by simpa using hE
    have k1 : (0 : Int) < (s.size : Int) := by omega
    by_cases hp : (s[0]'h1).toNat = 43
    · have HW : Hid _ := wv_plus h1 hp
      have b43 : (((s[0]'h1).toNat : Int) == 43) = true := by simp [hp]
      go_enter Tryd.func21, Tryd.ntmps21
      go_wp2_with fail
      refine bodyPost_ret (v := (.agg #[.int .i64 (0), .int .i64 (0), .string (⟨#[]⟩)])) (by simp [results, Tryd.results21, go_sem, *]) rfl ⟨by rw [HW.out], ?_⟩
      first | exact (((Below.refl _ _).alloc (Nat.le_refl _) _).alloc (by simp) _) | exact ((((((Below.refl _ _).alloc (Nat.le_refl _) _).alloc (by simp) _)).setCell (by simp <;> omega) _).setCell (by simp <;> omega) _).setCell (by simp <;> omega) _ | exact below_dw (((Below.refl _ _).alloc (Nat.le_refl _) _).alloc (by simp) _) | exact ((((below_dw (((Below.refl _ _).alloc (Nat.le_refl _) _).alloc (by simp) _))).setCell (by simp <;> omega) _).setCell (by simp <;> omega) _).setCell (by simp <;> omega) _
    · have HW : Hid (libV s = wv s) := lib_wv h1 hp
      have b43 : (((s[0]'h1).toNat : Int) == 43) = false := by
        have : ¬ ((s[0]'h1).toNat : Int) = 43 := by omega
        simpa using this
      have HV : Hid (Vs ((w.alloc (.cells #[.int .i64 3, .int .i64 n, .string s] 23)).alloc (.cells #[.int .i64 0, .int .i64 0, .string ⟨#[]⟩] 23))) := hv.below (((Below.refl _ _).alloc (Nat.le_refl _) _).alloc (by simp) _)
      clear hv
      cases hq : Lib.parseIntB 64 s.data.toList with
      | ok v =>
        have HL : Hid (libV s = (.agg #[.int .i64 (2), .int .i64 (v), .string (⟨#[]⟩)])) := by
          show libV s = (.agg #[.int .i64 (2), .int .i64 (v), .string (⟨#[]⟩)])
          unfold libV; rw [hq]
        have HQ : Hid _ := hq
        clear hq
        go_enter Tryd.func21, Tryd.ntmps21
        go_wp2_with fail
        refine (Tryd.strconv_ParseInt_10_at64_ok s (by omega) v HQ.out _).mono ?_
        rintro e w1 ⟨rfl, hw1⟩
        have hb1 : Below ((w.alloc (.cells #[.int .i64 3, .int .i64 n, .string s] 23)).alloc (.cells #[.int .i64 0, .int .i64 0, .string ⟨#[]⟩] 23)).heap.size ((w.alloc (.cells #[.int .i64 3, .int .i64 n, .string s] 23)).alloc (.cells #[.int .i64 0, .int .i64 0, .string ⟨#[]⟩] 23)) w1 := by
          rcases hw1 with rfl | ⟨t, rfl⟩
          · exact Below.refl _ _
          · exact bytesW
        clear hw1
        obtain ⟨hc1, hf1⟩ := bcell hb1; have za1 : w.heap.size < w1.heap.size := (by have := hb1.size; (try simp at this); omega); have zb1 : w.heap.size + 1 < w1.heap.size := (by have := hb1.size; (try simp at this); omega)
        go_wp2_with fail
        refine (vnumber _ _).mono ?_
        rintro e w2 ⟨rfl, hb2⟩
        obtain ⟨hc2, hf2⟩ := bcell hb2; have za2 : w.heap.size < w2.heap.size := (by have := hb2.size; (try simp at this); omega); have zb2 : w.heap.size + 1 < w2.heap.size := (by have := hb2.size; (try simp at this); omega)
        go_wp2
        refine bodyPost_ret (v := (.agg #[.int .i64 (2), .int .i64 (v), .string (⟨#[]⟩)])) (by simp [results, Tryd.results21, go_sem, *]) rfl ⟨by rw [← HW.out, HL.out], ?_⟩
        exact ((((keepBelow (keepBelow (((Below.refl _ _).alloc (Nat.le_refl _) _).alloc (by simp) _) hb1) hb2)).setCell (by simp <;> omega) _).setCell (by simp <;> omega) _).setCell (by simp <;> omega) _
      | «syntax» =>
        have HL : Hid (libV s = (.agg #[.int .i64 (0), .int .i64 (0), .string (⟨#[]⟩)])) := by
          show libV s = (.agg #[.int .i64 (0), .int .i64 (0), .string (⟨#[]⟩)])
          unfold libV; rw [hq]
        have HQ : Hid _ := hq
        clear hq
        obtain ⟨tp, p, hvar⟩ := HV.out.syn
        have HVR : Hid _ := hvar
        clear hvar
        go_enter Tryd.func21, Tryd.ntmps21
        go_wp2_with fail
        refine (Tryd.strconv_ParseInt_10_at64_syntax_var s (by omega) HQ.out tp p _ HVR.out).mono ?_
        rintro e w1 ⟨N, rfl, -, -, hb1⟩
        obtain ⟨hc1, hf1⟩ := bcell hb1; have za1 : w.heap.size < w1.heap.size := (by have := hb1.size; (try simp at this); omega); have zb1 : w.heap.size + 1 < w1.heap.size := (by have := hb1.size; (try simp at this); omega)
        go_wp2
        refine bodyPost_ret (v := (.agg #[.int .i64 (0), .int .i64 (0), .string (⟨#[]⟩)])) (by simp [results, Tryd.results21, go_sem, *]) rfl ⟨by rw [← HW.out, HL.out], ?_⟩
        first | exact keepBelow (((Below.refl _ _).alloc (Nat.le_refl _) _).alloc (by simp) _) hb1 | exact ((((keepBelow (((Below.refl _ _).alloc (Nat.le_refl _) _).alloc (by simp) _) hb1)).setCell (by simp <;> omega) _).setCell (by simp <;> omega) _).setCell (by simp <;> omega) _
      | range =>
        have HL : Hid (libV s = (.agg #[.int .i64 (0), .int .i64 (0), .string (⟨#[]⟩)])) := by
          show libV s = (.agg #[.int .i64 (0), .int .i64 (0), .string (⟨#[]⟩)])
          unfold libV; rw [hq]
        have HQ : Hid _ := hq
        clear hq
        obtain ⟨tp, p, hvar⟩ := HV.out.rng
        have HVR : Hid _ := hvar
        clear hvar
        go_enter Tryd.func21, Tryd.ntmps21
        go_wp2_with fail
        refine (Tryd.strconv_ParseInt_10_at64_range_var s (by omega) HQ.out tp p _ HVR.out).mono ?_
        rintro e w1 ⟨N, rfl, -, -, hb1⟩
        obtain ⟨hc1, hf1⟩ := bcell hb1; have za1 : w.heap.size < w1.heap.size := (by have := hb1.size; (try simp at this); omega); have zb1 : w.heap.size + 1 < w1.heap.size := (by have := hb1.size; (try simp at this); omega)
        go_wp2
        refine bodyPost_ret (v := (.agg #[.int .i64 (0), .int .i64 (0), .string (⟨#[]⟩)])) (by simp [results, Tryd.results21, go_sem, *]) rfl ⟨by rw [← HW.out, HL.out], ?_⟩
        first | exact keepBelow (((Below.refl _ _).alloc (Nat.le_refl _) _).alloc (by simp) _) hb1 | exact ((((keepBelow (((Below.refl _ _).alloc (Nat.le_refl _) _).alloc (by simp) _) hb1)).setCell (by simp <;> omega) _).setCell (by simp <;> omega) _).setCell (by simp <;> omega) _
end Go.Proofs.YtmkfkjicfmllmaaDoor
