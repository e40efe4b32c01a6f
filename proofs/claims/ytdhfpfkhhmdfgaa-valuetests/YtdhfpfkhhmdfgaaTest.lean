/- The contracts of value.Test and relstoreref.Test: comparisons by the order of values; null where there is none. -/
import Derived.Test.YtdhfpfkhhmdfgaaTruth
namespace Go.Proofs.Ytdhfpfkhhmdfgaa
open Go.RowKit
attribute [local go_sem ↓] Go.wp_at_zero Go.wp_at_succ

theorem ck_ck (k : Int) : ck (ck k) = ck k := by
  rcases ck_range k with h | h | h | h <;> rw [h] <;> rfl
theorem ck1 {k : Int} (h : ck k = 1) : k = 1 := by
  unfold ck at h; by_cases a : k = 1 <;> by_cases b : k = 2 <;> by_cases c : k = 3 <;> simp_all
theorem ck2 {k : Int} (h : ck k = 2) : k = 2 := by
  unfold ck at h; by_cases a : k = 1 <;> by_cases b : k = 2 <;> by_cases c : k = 3 <;> simp_all
theorem cn_ck (k n : Int) : cn (ck k) (cn k n) = cn k n := by
  rcases ck_range k with h | h | h | h
  · rw [h]; unfold ck at h; unfold cn
    by_cases a : k = 1 <;> by_cases b : k = 2 <;> by_cases c : k = 3 <;> simp_all
  · have := ck1 h; subst this; unfold cn; by_cases b : n = 0 <;> simp [b, bn, ck]
  · have := ck2 h; subst this; rfl
  · have := ck3 h; subst this; rfl
theorem cs_ck (k : Int) (s : ByteArray) : cs (ck k) (cs k s) = cs k s := by
  by_cases h : k = 3
  · subst h; rfl
  · have : cs k s = ⟨#[]⟩ := by simp [cs, h]
    rw [this]; unfold cs; split <;> rfl
theorem ord_clean (k n : Int) (s : ByteArray) (k' n' : Int) (s' : ByteArray) : ordV (ck k) (cn k n) (cs k s) (ck k') (cn k' n') (cs k' s') = ordV k n s k' n' s' := by
  unfold ordV; simp only [ck_ck, cn_ck, cs_ck]
theorem less_clean (k n : Int) (s : ByteArray) (k' n' : Int) (s' : ByteArray) : lessV (ck k) (cn k n) (cs k s) (ck k') (cn k' n') (cs k' s') = lessV k n s k' n' s' := by
  unfold lessV; simp only [ck_ck, cn_ck, cs_ck]

/- the truth of a comparison: 0 false, 1 true, 2 null -/
def tst (op : Int) (o : Int) : Int := if op = 11 then bn (o == 0) else if op = 12 then bn (o != 0) else if op = 13 then bn (decide (o < 0)) else if op = 14 then bn (decide (o ≤ 0)) else if op = 15 then bn (decide (0 < o)) else if op = 16 then bn (decide (0 ≤ o)) else 2
def testT (op k n : Int) (s : ByteArray) (k' n' : Int) (s' : ByteArray) : Int := if ck k = 0 ∨ ¬ ck k = ck k' then 2 else tst op (ordV k n s k' n' s')
theorem tk_bn (b : Bool) : tk (bn b) = 1 := by cases b <;> rfl
theorem tn_bn (b : Bool) : tn (bn b) = bn b := by cases b <;> rfl

theorem afterTwo {w wa wb : World} {k n : Int} {s : ByteArray} {k' n' : Int} {s' : ByteArray} {x0 x1 x2 y0 y1 y2 : Value}
    (hba : Below (((w.alloc (.cells #[.int .i64 k, .int .i64 n, .string s] 23)).alloc (.cells #[.int .i64 k', .int .i64 n', .string s'] 23)).alloc (.cells #[.int .i64 0, .int .i64 0, .string ⟨#[]⟩] 23)).drew.heap.size (((w.alloc (.cells #[.int .i64 k, .int .i64 n, .string s] 23)).alloc (.cells #[.int .i64 k', .int .i64 n', .string s'] 23)).alloc (.cells #[.int .i64 0, .int .i64 0, .string ⟨#[]⟩] 23)).drew wa) (hbb : Below wa.heap.size wa wb) :
    let wx := (((((wb.setCell ⟨w.heap.size, 0, none⟩ x0).setCell ⟨w.heap.size, 1, none⟩ x1).setCell ⟨w.heap.size, 2, none⟩ x2).setCell ⟨w.heap.size + 1, 0, none⟩ y0).setCell ⟨w.heap.size + 1, 1, none⟩ y1).setCell ⟨w.heap.size + 1, 2, none⟩ y2
    wx.cell? ⟨w.heap.size, 0, none⟩ = some x0 ∧ wx.cell? ⟨w.heap.size, 1, none⟩ = some x1 ∧ wx.cell? ⟨w.heap.size, 2, none⟩ = some x2 ∧ wx.cell? ⟨w.heap.size + 1, 0, none⟩ = some y0 ∧ wx.cell? ⟨w.heap.size + 1, 1, none⟩ = some y1 ∧ wx.cell? ⟨w.heap.size + 1, 2, none⟩ = some y2 ∧
    wx.cell? ⟨w.heap.size + 1 + 1, 0, none⟩ = some (.int .i64 (0)) ∧ wx.cell? ⟨w.heap.size + 1 + 1, 1, none⟩ = some (.int .i64 (0)) ∧ wx.cell? ⟨w.heap.size + 1 + 1, 2, none⟩ = some (.string (⟨#[]⟩)) ∧ wx.frozen? ⟨w.heap.size + 1 + 1, 0, none⟩ = false ∧ wx.frozen? ⟨w.heap.size + 1 + 1, 1, none⟩ = false ∧ wx.frozen? ⟨w.heap.size + 1 + 1, 2, none⟩ = false ∧ Below w.heap.size w wx ∧ w.heap.size + 1 + 1 < wx.heap.size := by
  intro wx
  have hb := hba.trans (hbb.mono hba.size)
  have hp := twoPut (A := w.heap.size) (B := w.heap.size + 1) (a0 := .int .i64 k) (a1 := .int .i64 n) (a2 := .string s) (b0 := .int .i64 k') (b1 := .int .i64 n') (b2 := .string s') (below3 w _ _ _) hb (Nat.le_refl _) (by omega) (by simp <;> omega) (by simp <;> omega) (by omega) (by go_simp) (by go_simp) (by go_simp) (by go_simp) (by go_simp) (by go_simp) x0 x1 x2 y0 y1 y2
  unfold put3 at hp
  obtain ⟨p0, p1, p2, p3, p4, p5, p6, p7⟩ := hp
  obtain ⟨hc, hf⟩ := bcell hb
  have z : w.heap.size + 1 + 1 < (((w.alloc (.cells #[.int .i64 k, .int .i64 n, .string s] 23)).alloc (.cells #[.int .i64 k', .int .i64 n', .string s'] 23)).alloc (.cells #[.int .i64 0, .int .i64 0, .string ⟨#[]⟩] 23)).drew.heap.size := by simp
  have hc0 := hc _ 0 z
  have hc1 := hc _ 1 z
  have hc2 := hc _ 2 z
  have hf0 := hf _ 0 z
  have hf1 := hf _ 1 z
  have hf2 := hf _ 2 z
  clear hc hf
  have far : ∀ q, wx.cell? ⟨w.heap.size + 1 + 1, q, none⟩ = wb.cell? ⟨w.heap.size + 1 + 1, q, none⟩ := fun q => by
    show (((((( wb.setCell ⟨w.heap.size, 0, none⟩ x0).setCell ⟨w.heap.size, 1, none⟩ x1).setCell ⟨w.heap.size, 2, none⟩ x2).setCell ⟨w.heap.size + 1, 0, none⟩ y0).setCell ⟨w.heap.size + 1, 1, none⟩ y1).setCell ⟨w.heap.size + 1, 2, none⟩ y2).cell? ⟨w.heap.size + 1 + 1, q, none⟩ = _
    go_simp
  have farf : ∀ q, wx.frozen? ⟨w.heap.size + 1 + 1, q, none⟩ = wb.frozen? ⟨w.heap.size + 1 + 1, q, none⟩ := fun q => by
    show (((((( wb.setCell ⟨w.heap.size, 0, none⟩ x0).setCell ⟨w.heap.size, 1, none⟩ x1).setCell ⟨w.heap.size, 2, none⟩ x2).setCell ⟨w.heap.size + 1, 0, none⟩ y0).setCell ⟨w.heap.size + 1, 1, none⟩ y1).setCell ⟨w.heap.size + 1, 2, none⟩ y2).frozen? ⟨w.heap.size + 1 + 1, q, none⟩ = _
    go_simp
  refine ⟨p0, p1, p2, p3, p4, p5, ?_, ?_, ?_, ?_, ?_, ?_, p6, Nat.lt_of_lt_of_le z p7⟩
  · rw [far, hc0]; go_simp
  · rw [far, hc1]; go_simp
  · rw [far, hc2]; go_simp
  · rw [farf, hf0]; go_simp
  · rw [farf, hf1]; go_simp
  · rw [farf, hf2]; go_simp

theorem testT_null {op k n : Int} {s : ByteArray} {k' n' : Int} {s' : ByteArray} (h : ck k = 0 ∨ ¬ ck k = ck k') : testT op k n s k' n' s' = 2 := by unfold testT; rw [if_pos h]
theorem testT_tst {op k n : Int} {s : ByteArray} {k' n' : Int} {s' : ByteArray} (h : ¬ ck k = 0) (h' : ck k = ck k') : testT op k n s k' n' s' = tst op (ordV k n s k' n' s') := by unfold testT; rw [if_neg (fun q => q.elim h (fun r => r h'))]

set_option maxHeartbeats 4000000 in
theorem vtest (op k n : Int) (s : ByteArray) (k' n' : Int) (s' : ByteArray) (w : World) : Calls Try.prog 17 #[.int .i64 op, (.agg #[.int .i64 (k), .int .i64 (n), .string (s)]), (.agg #[.int .i64 (k'), .int .i64 (n'), .string (s')])] w fun e w' => e = .returned (.agg #[.int .i64 (tk (testT op k n s k' n' s')), .int .i64 (tn (testT op k n s k' n' s')), .string (⟨#[]⟩)]) ∧ Below w.heap.size w w' := by
  go_enter Try.func17, Try.ntmps17
  go_upto_region 1 with fail
  go_cut [] (fun wx => wx.cell? ⟨w.heap.size, 0, none⟩ = some (.int .i64 (ck k)) ∧ wx.cell? ⟨w.heap.size, 1, none⟩ = some (.int .i64 (cn k n)) ∧ wx.cell? ⟨w.heap.size, 2, none⟩ = some (.string (cs k s)) ∧ wx.cell? ⟨w.heap.size + 1, 0, none⟩ = some (.int .i64 (ck k')) ∧ wx.cell? ⟨w.heap.size + 1, 1, none⟩ = some (.int .i64 (cn k' n')) ∧ wx.cell? ⟨w.heap.size + 1, 2, none⟩ = some (.string (cs k' s')) ∧ wx.cell? ⟨w.heap.size + 1 + 1, 0, none⟩ = some (.int .i64 (0)) ∧ wx.cell? ⟨w.heap.size + 1 + 1, 1, none⟩ = some (.int .i64 (0)) ∧ wx.cell? ⟨w.heap.size + 1 + 1, 2, none⟩ = some (.string (⟨#[]⟩)) ∧ wx.frozen? ⟨w.heap.size + 1 + 1, 0, none⟩ = false ∧ wx.frozen? ⟨w.heap.size + 1 + 1, 1, none⟩ = false ∧ wx.frozen? ⟨w.heap.size + 1 + 1, 2, none⟩ = false ∧ Below w.heap.size w wx ∧ w.heap.size + 1 + 1 < wx.heap.size)
  case first =>
    go_region_with (first | (go_at_call 15; refine (vclean _ _ _ _).mono ?_; rintro e w' ⟨rfl, hb⟩; obtain ⟨hc, hf⟩ := bcell hb; have hs0 : w.heap.size < w'.heap.size := (by have := hb.size; (try simp at this); omega); have hs1 : w.heap.size + 1 < w'.heap.size := (by have := hb.size; (try simp at this); omega); have hs2 : w.heap.size + 1 + 1 < w'.heap.size := (by have := hb.size; (try simp at this); omega)))
    all_goals
      go_wp2_with fail
      go_meet
      rename_i wa hba _ _ _ _ _
      exact afterTwo hba hb
  case rest =>
    obtain ⟨a0, a1, a2, b0, b1, b2, c0, c1, c2, f0, f1, f2, hB, zc⟩ := hcut
    have za : w.heap.size < wc.heap.size := by omega
    have zb : w.heap.size + 1 < wc.heap.size := by omega
    by_cases h0 : (ck k == 0) = true
    · have HT : Hid (testT op k n s k' n' s' = 2) := testT_null (Or.inl (by simpa using h0))
      go_wp2
      refine bodyPost_ret (v := (.agg #[.int .i64 (0), .int .i64 (0), .string (⟨#[]⟩)])) (by simp [results, Try.results17, go_sem, *]) rfl ⟨by rw [HT.out]; rfl, ?_⟩
      exact (((hB).setCell (by simp <;> omega) _).setCell (by simp <;> omega) _).setCell (by simp <;> omega) _
    have h0' : (ck k == 0) = false := by simpa using h0
    have g0 : ¬ ck k = 0 := by simpa using h0
    clear h0
    by_cases h1 : (ck k != ck k') = true
    · have HT : Hid (testT op k n s k' n' s' = 2) := testT_null (Or.inr (by simpa using h1))
      clear g0
      go_wp2
      refine bodyPost_ret (v := (.agg #[.int .i64 (0), .int .i64 (0), .string (⟨#[]⟩)])) (by simp [results, Try.results17, go_sem, *]) rfl ⟨by rw [HT.out]; rfl, ?_⟩
      exact (((hB).setCell (by simp <;> omega) _).setCell (by simp <;> omega) _).setCell (by simp <;> omega) _
    have h1' : (ck k != ck k') = false := by simpa using h1
    have g1 : ck k = ck k' := by simpa using h1
    have HQ : Hid (∀ op, testT op k n s k' n' s' = tst op (ordV k n s k' n' s')) := fun op => testT_tst g0 g1
    clear h1 g0 g1
    have hcl := ord_clean k n s k' n' s'
    by_cases o11 : op = 11
    · subst o11
      have HT : Hid (testT 11 k n s k' n' s' = bn (ordV k n s k' n' s' == 0)) := HQ.out 11
      go_wp2_with fail
      refine (vorder _ _ _ _ _ _ _).mono ?_
      rintro e w1 ⟨rfl, hb1⟩
      rw [hcl]
      clear hcl
      obtain ⟨hc1, hf1⟩ := bcell hb1; have za1 : w.heap.size < w1.heap.size := (by have := hb1.size; (try simp at this); omega); have zb1 : w.heap.size + 1 < w1.heap.size := (by have := hb1.size; (try simp at this); omega); have zc1 : w.heap.size + 1 + 1 < w1.heap.size := (by have := hb1.size; (try simp at this); omega)
      go_wp2_with fail
      refine (vtruth _ _).mono ?_
      rintro e w2 ⟨rfl, hb2⟩
      obtain ⟨hc2, hf2⟩ := bcell hb2; have za2 : w.heap.size < w2.heap.size := (by have := hb2.size; (try simp at this); omega); have zb2 : w.heap.size + 1 < w2.heap.size := (by have := hb2.size; (try simp at this); omega); have zc2 : w.heap.size + 1 + 1 < w2.heap.size := (by have := hb2.size; (try simp at this); omega)
      go_wp2
      refine bodyPost_ret (v := (.agg #[.int .i64 (1), .int .i64 (bn (ordV k n s k' n' s' == 0)), .string (⟨#[]⟩)])) (by simp [results, Try.results17, go_sem, *]) rfl ⟨by rw [HT.out, tk_bn, tn_bn], ?_⟩
      exact ((((keepBelow (keepBelow hB hb1) hb2)).setCell (by simp <;> omega) _).setCell (by simp <;> omega) _).setCell (by simp <;> omega) _
    by_cases o12 : op = 12
    · subst o12
      have HT : Hid (testT 12 k n s k' n' s' = bn (ordV k n s k' n' s' != 0)) := HQ.out 12
      go_wp2_with fail
      refine (vorder _ _ _ _ _ _ _).mono ?_
      rintro e w1 ⟨rfl, hb1⟩
      rw [hcl]
      clear hcl
      obtain ⟨hc1, hf1⟩ := bcell hb1; have za1 : w.heap.size < w1.heap.size := (by have := hb1.size; (try simp at this); omega); have zb1 : w.heap.size + 1 < w1.heap.size := (by have := hb1.size; (try simp at this); omega); have zc1 : w.heap.size + 1 + 1 < w1.heap.size := (by have := hb1.size; (try simp at this); omega)
      go_wp2_with fail
      refine (vtruth _ _).mono ?_
      rintro e w2 ⟨rfl, hb2⟩
      obtain ⟨hc2, hf2⟩ := bcell hb2; have za2 : w.heap.size < w2.heap.size := (by have := hb2.size; (try simp at this); omega); have zb2 : w.heap.size + 1 < w2.heap.size := (by have := hb2.size; (try simp at this); omega); have zc2 : w.heap.size + 1 + 1 < w2.heap.size := (by have := hb2.size; (try simp at this); omega)
      go_wp2
      refine bodyPost_ret (v := (.agg #[.int .i64 (1), .int .i64 (bn (ordV k n s k' n' s' != 0)), .string (⟨#[]⟩)])) (by simp [results, Try.results17, go_sem, *]) rfl ⟨by rw [HT.out, tk_bn, tn_bn], ?_⟩
      exact ((((keepBelow (keepBelow hB hb1) hb2)).setCell (by simp <;> omega) _).setCell (by simp <;> omega) _).setCell (by simp <;> omega) _
    by_cases o13 : op = 13
    · subst o13
      have HT : Hid (testT 13 k n s k' n' s' = bn (decide (ordV k n s k' n' s' < 0))) := HQ.out 13
      go_wp2_with fail
      refine (vorder _ _ _ _ _ _ _).mono ?_
      rintro e w1 ⟨rfl, hb1⟩
      rw [hcl]
      clear hcl
      obtain ⟨hc1, hf1⟩ := bcell hb1; have za1 : w.heap.size < w1.heap.size := (by have := hb1.size; (try simp at this); omega); have zb1 : w.heap.size + 1 < w1.heap.size := (by have := hb1.size; (try simp at this); omega); have zc1 : w.heap.size + 1 + 1 < w1.heap.size := (by have := hb1.size; (try simp at this); omega)
      go_wp2_with fail
      refine (vtruth _ _).mono ?_
      rintro e w2 ⟨rfl, hb2⟩
      obtain ⟨hc2, hf2⟩ := bcell hb2; have za2 : w.heap.size < w2.heap.size := (by have := hb2.size; (try simp at this); omega); have zb2 : w.heap.size + 1 < w2.heap.size := (by have := hb2.size; (try simp at this); omega); have zc2 : w.heap.size + 1 + 1 < w2.heap.size := (by have := hb2.size; (try simp at this); omega)
      go_wp2
      refine bodyPost_ret (v := (.agg #[.int .i64 (1), .int .i64 (bn (decide (ordV k n s k' n' s' < 0))), .string (⟨#[]⟩)])) (by simp [results, Try.results17, go_sem, *]) rfl ⟨by rw [HT.out, tk_bn, tn_bn], ?_⟩
      exact ((((keepBelow (keepBelow hB hb1) hb2)).setCell (by simp <;> omega) _).setCell (by simp <;> omega) _).setCell (by simp <;> omega) _
    by_cases o14 : op = 14
    · subst o14
      have HT : Hid (testT 14 k n s k' n' s' = bn (decide (ordV k n s k' n' s' ≤ 0))) := HQ.out 14
      go_wp2_with fail
      refine (vorder _ _ _ _ _ _ _).mono ?_
      rintro e w1 ⟨rfl, hb1⟩
      rw [hcl]
      clear hcl
      obtain ⟨hc1, hf1⟩ := bcell hb1; have za1 : w.heap.size < w1.heap.size := (by have := hb1.size; (try simp at this); omega); have zb1 : w.heap.size + 1 < w1.heap.size := (by have := hb1.size; (try simp at this); omega); have zc1 : w.heap.size + 1 + 1 < w1.heap.size := (by have := hb1.size; (try simp at this); omega)
      go_wp2_with fail
      refine (vtruth _ _).mono ?_
      rintro e w2 ⟨rfl, hb2⟩
      obtain ⟨hc2, hf2⟩ := bcell hb2; have za2 : w.heap.size < w2.heap.size := (by have := hb2.size; (try simp at this); omega); have zb2 : w.heap.size + 1 < w2.heap.size := (by have := hb2.size; (try simp at this); omega); have zc2 : w.heap.size + 1 + 1 < w2.heap.size := (by have := hb2.size; (try simp at this); omega)
      go_wp2
      refine bodyPost_ret (v := (.agg #[.int .i64 (1), .int .i64 (bn (decide (ordV k n s k' n' s' ≤ 0))), .string (⟨#[]⟩)])) (by simp [results, Try.results17, go_sem, *]) rfl ⟨by rw [HT.out, tk_bn, tn_bn], ?_⟩
      exact ((((keepBelow (keepBelow hB hb1) hb2)).setCell (by simp <;> omega) _).setCell (by simp <;> omega) _).setCell (by simp <;> omega) _
    by_cases o15 : op = 15
    · subst o15
      have HT : Hid (testT 15 k n s k' n' s' = bn (decide (0 < ordV k n s k' n' s'))) := HQ.out 15
      go_wp2_with fail
      refine (vorder _ _ _ _ _ _ _).mono ?_
      rintro e w1 ⟨rfl, hb1⟩
      rw [hcl]
      clear hcl
      obtain ⟨hc1, hf1⟩ := bcell hb1; have za1 : w.heap.size < w1.heap.size := (by have := hb1.size; (try simp at this); omega); have zb1 : w.heap.size + 1 < w1.heap.size := (by have := hb1.size; (try simp at this); omega); have zc1 : w.heap.size + 1 + 1 < w1.heap.size := (by have := hb1.size; (try simp at this); omega)
      go_wp2_with fail
      refine (vtruth _ _).mono ?_
      rintro e w2 ⟨rfl, hb2⟩
      obtain ⟨hc2, hf2⟩ := bcell hb2; have za2 : w.heap.size < w2.heap.size := (by have := hb2.size; (try simp at this); omega); have zb2 : w.heap.size + 1 < w2.heap.size := (by have := hb2.size; (try simp at this); omega); have zc2 : w.heap.size + 1 + 1 < w2.heap.size := (by have := hb2.size; (try simp at this); omega)
      go_wp2
      refine bodyPost_ret (v := (.agg #[.int .i64 (1), .int .i64 (bn (decide (0 < ordV k n s k' n' s'))), .string (⟨#[]⟩)])) (by simp [results, Try.results17, go_sem, *]) rfl ⟨by rw [HT.out, tk_bn, tn_bn], ?_⟩
      exact ((((keepBelow (keepBelow hB hb1) hb2)).setCell (by simp <;> omega) _).setCell (by simp <;> omega) _).setCell (by simp <;> omega) _
    by_cases o16 : op = 16
    · subst o16
      have HT : Hid (testT 16 k n s k' n' s' = bn (decide (0 ≤ ordV k n s k' n' s'))) := HQ.out 16
      go_wp2_with fail
      refine (vorder _ _ _ _ _ _ _).mono ?_
      rintro e w1 ⟨rfl, hb1⟩
      rw [hcl]
      clear hcl
      obtain ⟨hc1, hf1⟩ := bcell hb1; have za1 : w.heap.size < w1.heap.size := (by have := hb1.size; (try simp at this); omega); have zb1 : w.heap.size + 1 < w1.heap.size := (by have := hb1.size; (try simp at this); omega); have zc1 : w.heap.size + 1 + 1 < w1.heap.size := (by have := hb1.size; (try simp at this); omega)
      go_wp2_with fail
      refine (vtruth _ _).mono ?_
      rintro e w2 ⟨rfl, hb2⟩
      obtain ⟨hc2, hf2⟩ := bcell hb2; have za2 : w.heap.size < w2.heap.size := (by have := hb2.size; (try simp at this); omega); have zb2 : w.heap.size + 1 < w2.heap.size := (by have := hb2.size; (try simp at this); omega); have zc2 : w.heap.size + 1 + 1 < w2.heap.size := (by have := hb2.size; (try simp at this); omega)
      go_wp2
      refine bodyPost_ret (v := (.agg #[.int .i64 (1), .int .i64 (bn (decide (0 ≤ ordV k n s k' n' s'))), .string (⟨#[]⟩)])) (by simp [results, Try.results17, go_sem, *]) rfl ⟨by rw [HT.out, tk_bn, tn_bn], ?_⟩
      exact ((((keepBelow (keepBelow hB hb1) hb2)).setCell (by simp <;> omega) _).setCell (by simp <;> omega) _).setCell (by simp <;> omega) _
    · have HT : Hid (testT op k n s k' n' s' = 2) := (HQ.out op).trans (by simp [tst, o11, o12, o13, o14, o15, o16])
      have u11 : (op == 11) = false := by simpa using o11
      have u12 : (op == 12) = false := by simpa using o12
      have u13 : (op == 13) = false := by simpa using o13
      have u14 : (op == 14) = false := by simpa using o14
      have u15 : (op == 15) = false := by simpa using o15
      have u16 : (op == 16) = false := by simpa using o16
      clear o11 o12 o13 o14 o15 o16
      go_wp2_with fail
      refine (vorder _ _ _ _ _ _ _).mono ?_
      rintro e w1 ⟨rfl, hb1⟩
      rw [hcl]
      clear hcl
      obtain ⟨hc1, hf1⟩ := bcell hb1; have za1 : w.heap.size < w1.heap.size := (by have := hb1.size; (try simp at this); omega); have zb1 : w.heap.size + 1 < w1.heap.size := (by have := hb1.size; (try simp at this); omega); have zc1 : w.heap.size + 1 + 1 < w1.heap.size := (by have := hb1.size; (try simp at this); omega)
      go_wp2
      refine bodyPost_ret (v := (.agg #[.int .i64 (0), .int .i64 (0), .string (⟨#[]⟩)])) (by simp [results, Try.results17, go_sem, *]) rfl ⟨by rw [HT.out]; rfl, ?_⟩
      exact ((((keepBelow hB hb1)).setCell (by simp <;> omega) _).setCell (by simp <;> omega) _).setCell (by simp <;> omega) _
end Go.Proofs.Ytdhfpfkhhmdfgaa
