/- The contract of relstoreref.Test: it is that of value.Test. -/
import Derived.Test.YtdhfpfkhhmdfgaaTest
import Derived.Test.YtdhfpfkhhmdfgaaSmall
namespace Go.Proofs.Ytdhfpfkhhmdfgaa
open Go.RowKit
attribute [local go_sem ↓] Go.wp_at_zero Go.wp_at_succ

theorem less_asymm (k n : Int) (s : ByteArray) (k' n' : Int) (s' : ByteArray) (h : lessV k n s k' n' s' = true) : lessV k' n' s' k n s = false := by
  unfold lessV at *
  by_cases e : ck k = ck k'
  · rw [if_pos e] at h
    rw [if_pos e.symm]
    by_cases e3 : ck k = 3
    · rw [if_pos e3] at h
      rw [if_pos (e ▸ e3 : ck k' = 3)]
      exact bl_asymm h
    · rw [if_neg e3] at h
      rw [if_neg (fun q => e3 (e.trans q) : ¬ ck k' = 3)]
      simp at h ⊢
      omega
  · rw [if_neg e] at h
    rw [if_neg (Ne.symm e)]
    simp at h ⊢
    omega

theorem keepFz {W w1 : World} (hb : Below W.heap.size W w1) {A q : Nat} {v : Bool} (hA : A < W.heap.size) (h : W.frozen? ⟨A, q, none⟩ = v) : w1.frozen? ⟨A, q, none⟩ = v := by
  rw [(bcell hb).2 A q hA, h]
def I2r (w X : World) (k n : Int) (s : ByteArray) (k' n' : Int) (s' : ByteArray) : Prop := X.cell? ⟨w.heap.size, 0, none⟩ = some (.int .i64 (ck k)) ∧ X.cell? ⟨w.heap.size, 1, none⟩ = some (.int .i64 (cn k n)) ∧ X.cell? ⟨w.heap.size, 2, none⟩ = some (.string (cs k s)) ∧ X.cell? ⟨w.heap.size + 1, 0, none⟩ = some (.int .i64 (ck k')) ∧ X.cell? ⟨w.heap.size + 1, 1, none⟩ = some (.int .i64 (cn k' n')) ∧ X.cell? ⟨w.heap.size + 1, 2, none⟩ = some (.string (cs k' s')) ∧ X.cell? ⟨w.heap.size + 1 + 1, 0, none⟩ = some (.int .i64 (0)) ∧ X.cell? ⟨w.heap.size + 1 + 1, 1, none⟩ = some (.int .i64 (0)) ∧ X.cell? ⟨w.heap.size + 1 + 1, 2, none⟩ = some (.string (⟨#[]⟩)) ∧ X.frozen? ⟨w.heap.size + 1 + 1, 0, none⟩ = false ∧ X.frozen? ⟨w.heap.size + 1 + 1, 1, none⟩ = false ∧ X.frozen? ⟨w.heap.size + 1 + 1, 2, none⟩ = false ∧ Below w.heap.size w X ∧ w.heap.size + 1 + 1 < X.heap.size
theorem I2r.step {w X Y : World} {k n : Int} {s : ByteArray} {k' n' : Int} {s' : ByteArray} (h : I2r w X k n s k' n' s') (hb : Below X.heap.size X Y) : I2r w Y k n s k' n' s' := by
  obtain ⟨a0, a1, a2, b0, b1, b2, c0, c1, c2, f0, f1, f2, hB, z⟩ := h
  have za : w.heap.size < X.heap.size := by omega
  have zb : w.heap.size + 1 < X.heap.size := by omega
  exact ⟨keepCell hb za a0, keepCell hb za a1, keepCell hb za a2, keepCell hb zb b0, keepCell hb zb b1, keepCell hb zb b2, keepCell hb z c0, keepCell hb z c1, keepCell hb z c2, keepFz hb z f0, keepFz hb z f1, keepFz hb z f2, keepBelow hB hb, keepSize hb z⟩

set_option maxHeartbeats 8000000 in
theorem rtest (op k n : Int) (s : ByteArray) (k' n' : Int) (s' : ByteArray) (w : World) : Calls Try.prog 18 #[.int .i64 op, (.agg #[.int .i64 (k), .int .i64 (n), .string (s)]), (.agg #[.int .i64 (k'), .int .i64 (n'), .string (s')])] w fun e w' => e = .returned (.agg #[.int .i64 (tk (testT op k n s k' n' s')), .int .i64 (tn (testT op k n s k' n' s')), .string (⟨#[]⟩)]) ∧ Below w.heap.size w w' := by
  have e0 := bn_f
  have e1 := bn_t
  go_enter Try.func18, Try.ntmps18
  go_upto_region 1 with fail
  go_cut [] (fun wx => wx.cell? ⟨w.heap.size, 0, none⟩ = some (.int .i64 (ck k)) ∧ wx.cell? ⟨w.heap.size, 1, none⟩ = some (.int .i64 (cn k n)) ∧ wx.cell? ⟨w.heap.size, 2, none⟩ = some (.string (cs k s)) ∧ wx.cell? ⟨w.heap.size + 1, 0, none⟩ = some (.int .i64 (ck k')) ∧ wx.cell? ⟨w.heap.size + 1, 1, none⟩ = some (.int .i64 (cn k' n')) ∧ wx.cell? ⟨w.heap.size + 1, 2, none⟩ = some (.string (cs k' s')) ∧ wx.cell? ⟨w.heap.size + 1 + 1, 0, none⟩ = some (.int .i64 (0)) ∧ wx.cell? ⟨w.heap.size + 1 + 1, 1, none⟩ = some (.int .i64 (0)) ∧ wx.cell? ⟨w.heap.size + 1 + 1, 2, none⟩ = some (.string (⟨#[]⟩)) ∧ wx.frozen? ⟨w.heap.size + 1 + 1, 0, none⟩ = false ∧ wx.frozen? ⟨w.heap.size + 1 + 1, 1, none⟩ = false ∧ wx.frozen? ⟨w.heap.size + 1 + 1, 2, none⟩ = false ∧ Below w.heap.size w wx ∧ w.heap.size + 1 + 1 < wx.heap.size)
  case first =>
    go_region_with (first | (go_at_call 16; refine (rclean _ _ _ _).mono ?_; rintro e w' ⟨rfl, hb⟩; obtain ⟨hc, hf⟩ := bcell hb; have hs0 : w.heap.size < w'.heap.size := (by have := hb.size; (try simp at this); omega); have hs1 : w.heap.size + 1 < w'.heap.size := (by have := hb.size; (try simp at this); omega); have hs2 : w.heap.size + 1 + 1 < w'.heap.size := (by have := hb.size; (try simp at this); omega)))
    all_goals
      go_wp2_with fail
      go_meet
      rename_i wa hba _ _ _ _ _
      exact afterTwo hba hb
  case rest =>
    obtain ⟨a0, a1, a2, b0, b1, b2, c0, c1, c2, f0, f1, f2, hB, zc⟩ := hcut
    have za : w.heap.size < wc.heap.size := by omega
    have zb : w.heap.size + 1 < wc.heap.size := by omega
    by_cases h0 : (ck k == 0) = true
    · have HT : Hid (testT op k n s k' n' s' = 2) := testT_null (Or.inl (by simpa using h0))
      go_wp2_with fail
      refine (rnull _).mono ?_
      rintro e w1 ⟨rfl, hb1⟩
      obtain ⟨hc1, hf1⟩ := bcell hb1; have za1 : w.heap.size < w1.heap.size := (by have := hb1.size; (try simp at this); omega); have zb1 : w.heap.size + 1 < w1.heap.size := (by have := hb1.size; (try simp at this); omega); have zc1 : w.heap.size + 1 + 1 < w1.heap.size := (by have := hb1.size; (try simp at this); omega)
      go_wp2
      refine bodyPost_ret (v := (.agg #[.int .i64 (0), .int .i64 (0), .string (⟨#[]⟩)])) (by simp [results, Try.results18, go_sem, *]) rfl ⟨by rw [HT.out]; rfl, ?_⟩
      exact ((((keepBelow hB hb1)).setCell (by simp <;> omega) _).setCell (by simp <;> omega) _).setCell (by simp <;> omega) _
    have h0' : (ck k == 0) = false := by simpa using h0
    have g0 : ¬ ck k = 0 := by simpa using h0
    clear h0
    by_cases h1 : (ck k != ck k') = true
    · have HT : Hid (testT op k n s k' n' s' = 2) := testT_null (Or.inr (by simpa using h1))
      clear g0
      go_wp2_with fail
      refine (rnull _).mono ?_
      rintro e w1 ⟨rfl, hb1⟩
      obtain ⟨hc1, hf1⟩ := bcell hb1; have za1 : w.heap.size < w1.heap.size := (by have := hb1.size; (try simp at this); omega); have zb1 : w.heap.size + 1 < w1.heap.size := (by have := hb1.size; (try simp at this); omega); have zc1 : w.heap.size + 1 + 1 < w1.heap.size := (by have := hb1.size; (try simp at this); omega)
      go_wp2
      refine bodyPost_ret (v := (.agg #[.int .i64 (0), .int .i64 (0), .string (⟨#[]⟩)])) (by simp [results, Try.results18, go_sem, *]) rfl ⟨by rw [HT.out]; rfl, ?_⟩
      exact ((((keepBelow hB hb1)).setCell (by simp <;> omega) _).setCell (by simp <;> omega) _).setCell (by simp <;> omega) _
    have h1' : (ck k != ck k') = false := by simpa using h1
    have g1 : ck k = ck k' := by simpa using h1
    have HQ : Hid (∀ op, testT op k n s k' n' s' = tst op (ordV k n s k' n' s')) := fun op => testT_tst g0 g1
    clear h1 g0 g1
    by_cases hin : (decide (11 ≤ op) && decide (op ≤ 16)) = true
    case neg =>
      have hin' : (decide (11 ≤ op) && decide (op ≤ 16)) = false := by simpa using hin
      have HT : Hid (testT op k n s k' n' s' = 2) := (HQ.out op).trans (by
        have q : ¬ (11 ≤ op ∧ op ≤ 16) := by simpa using hin
        simp [tst, show ¬ op = 11 by omega, show ¬ op = 12 by omega, show ¬ op = 13 by omega, show ¬ op = 14 by omega, show ¬ op = 15 by omega, show ¬ op = 16 by omega])
      clear hin
      go_wp2_with fail
      refine (rin _ _ _ _).mono ?_
      rintro e w0 ⟨rfl, rfl⟩
      rw [hin']
      clear hin'
      go_wp2_with fail
      refine (rnull _).mono ?_
      rintro e w1 ⟨rfl, hb1⟩
      obtain ⟨hc1, hf1⟩ := bcell hb1; have za1 : w.heap.size < w1.heap.size := (by have := hb1.size; (try simp at this); omega); have zb1 : w.heap.size + 1 < w1.heap.size := (by have := hb1.size; (try simp at this); omega); have zc1 : w.heap.size + 1 + 1 < w1.heap.size := (by have := hb1.size; (try simp at this); omega)
      go_wp2
      refine bodyPost_ret (v := (.agg #[.int .i64 (0), .int .i64 (0), .string (⟨#[]⟩)])) (by simp [results, Try.results18, go_sem, *]) rfl ⟨by rw [HT.out]; rfl, ?_⟩
      exact ((((keepBelow hB hb1)).setCell (by simp <;> omega) _).setCell (by simp <;> omega) _).setCell (by simp <;> omega) _
    case pos =>
      have Hin : Hid (11 ≤ op ∧ op ≤ 16) := (by simpa using hin : 11 ≤ op ∧ op ≤ 16)
      go_wp2_with fail
      refine (rin _ _ _ _).mono ?_
      rintro e w0 ⟨rfl, rfl⟩
      rw [hin]
      clear hin
      have hi : I2r w w0 k n s k' n' s' := ⟨a0, a1, a2, b0, b1, b2, c0, c1, c2, f0, f1, f2, hB, zc⟩
      have hl1 := less_clean k n s k' n' s'
      have hl2 := less_clean k' n' s' k n s
      go_upto_region 4 with fail
      go_cut [7, 8] (fun x y wx => x = .bool (lessV k n s k' n' s') ∧ y = .bool (lessV k' n' s' k n s) ∧ I2r w wx k n s k' n' s')
      case first =>
        go_region_held3 (fun w' => w'.cell? ⟨w.heap.size, 0, none⟩ = some (.int .i64 (ck k)) ∧ w'.cell? ⟨w.heap.size, 1, none⟩ = some (.int .i64 (cn k n)) ∧ w'.cell? ⟨w.heap.size, 2, none⟩ = some (.string (cs k s)) ∧ w'.cell? ⟨w.heap.size + 1, 0, none⟩ = some (.int .i64 (ck k')) ∧ w'.cell? ⟨w.heap.size + 1, 1, none⟩ = some (.int .i64 (cn k' n')) ∧ w'.cell? ⟨w.heap.size + 1, 2, none⟩ = some (.string (cs k' s')) ∧ w'.cell? ⟨w.heap.size + 1 + 1, 0, none⟩ = some (.int .i64 (0)) ∧ w'.cell? ⟨w.heap.size + 1 + 1, 1, none⟩ = some (.int .i64 (0)) ∧ w'.cell? ⟨w.heap.size + 1 + 1, 2, none⟩ = some (.string (⟨#[]⟩)) ∧ w'.frozen? ⟨w.heap.size + 1 + 1, 0, none⟩ = false ∧ w'.frozen? ⟨w.heap.size + 1 + 1, 1, none⟩ = false ∧ w'.frozen? ⟨w.heap.size + 1 + 1, 2, none⟩ = false ∧ Below w.heap.size w w' ∧ w.heap.size + 1 + 1 < w'.heap.size) (first | exact hi.step (Below.refl _ _).drew | (go_split_ands; and_intros <;> assumption) | (exact I2r.step (by assumption) hb))
          (first | (go_at_call 45; refine (rless _ _ _ _ _ _ _).mono ?_; rintro e w' ⟨rfl, hb⟩))
        go_wp2_with fail
        go_meet
        refine ⟨rfl, rfl, ?_⟩
        assumption
      case rest =>
        clear hi hl1 hl2 a0 a1 a2 b0 b1 b2 c0 c1 c2 f0 f1 f2 hB za zb zc
        obtain ⟨rfl, rfl, hi⟩ := hcut
        obtain ⟨a0, a1, a2, b0, b1, b2, c0, c1, c2, f0, f1, f2, hB, zc⟩ := hi
        have za : w.heap.size < wc.heap.size := by omega
        have zb : w.heap.size + 1 < wc.heap.size := by omega
        have Hs : Hid _ := sign_ord k n s k' n' s'
        have Ha : Hid _ := less_asymm k n s k' n' s'
        obtain ⟨o1, o2⟩ := Hin.out
        clear Hin
        cases hl : lessV k n s k' n' s' <;> cases hr : lessV k' n' s' k n s
        · have HO : Hid (ordV k n s k' n' s' = 0) := by have := Hs.out; rw [hl, hr] at this; exact this.symm
          clear Hs Ha
          rcases (show op = 11 ∨ op = 12 ∨ op = 13 ∨ op = 14 ∨ op = 15 ∨ op = 16 by omega) with rfl | rfl | rfl | rfl | rfl | rfl
          · have HT : Hid (testT 11 k n s k' n' s' = 1) := by show _ = _; rw [HQ.out, HO.out]; rfl
            clear HQ HO
            go_wp2_with fail
            refine (rtruth _ _).mono ?_
            rintro e w1 ⟨rfl, hb1⟩
            obtain ⟨hc1, hf1⟩ := bcell hb1; have za1 : w.heap.size < w1.heap.size := (by have := hb1.size; (try simp at this); omega); have zb1 : w.heap.size + 1 < w1.heap.size := (by have := hb1.size; (try simp at this); omega); have zc1 : w.heap.size + 1 + 1 < w1.heap.size := (by have := hb1.size; (try simp at this); omega)
            go_wp2
            refine bodyPost_ret (v := (.agg #[.int .i64 (1), .int .i64 (1), .string (⟨#[]⟩)])) (by simp [results, Try.results18, go_sem, *]) rfl ⟨by rw [HT.out]; rfl, ?_⟩
            exact ((((keepBelow hB hb1)).setCell (by simp <;> omega) _).setCell (by simp <;> omega) _).setCell (by simp <;> omega) _
          · have HT : Hid (testT 12 k n s k' n' s' = 0) := by show _ = _; rw [HQ.out, HO.out]; rfl
            clear HQ HO
            go_wp2_with fail
            refine (rtruth _ _).mono ?_
            rintro e w1 ⟨rfl, hb1⟩
            obtain ⟨hc1, hf1⟩ := bcell hb1; have za1 : w.heap.size < w1.heap.size := (by have := hb1.size; (try simp at this); omega); have zb1 : w.heap.size + 1 < w1.heap.size := (by have := hb1.size; (try simp at this); omega); have zc1 : w.heap.size + 1 + 1 < w1.heap.size := (by have := hb1.size; (try simp at this); omega)
            go_wp2
            refine bodyPost_ret (v := (.agg #[.int .i64 (1), .int .i64 (0), .string (⟨#[]⟩)])) (by simp [results, Try.results18, go_sem, *]) rfl ⟨by rw [HT.out]; rfl, ?_⟩
            exact ((((keepBelow hB hb1)).setCell (by simp <;> omega) _).setCell (by simp <;> omega) _).setCell (by simp <;> omega) _
          · have HT : Hid (testT 13 k n s k' n' s' = 0) := by show _ = _; rw [HQ.out, HO.out]; rfl
            clear HQ HO
            go_wp2_with fail
            refine (rtruth _ _).mono ?_
            rintro e w1 ⟨rfl, hb1⟩
            obtain ⟨hc1, hf1⟩ := bcell hb1; have za1 : w.heap.size < w1.heap.size := (by have := hb1.size; (try simp at this); omega); have zb1 : w.heap.size + 1 < w1.heap.size := (by have := hb1.size; (try simp at this); omega); have zc1 : w.heap.size + 1 + 1 < w1.heap.size := (by have := hb1.size; (try simp at this); omega)
            go_wp2
            refine bodyPost_ret (v := (.agg #[.int .i64 (1), .int .i64 (0), .string (⟨#[]⟩)])) (by simp [results, Try.results18, go_sem, *]) rfl ⟨by rw [HT.out]; rfl, ?_⟩
            exact ((((keepBelow hB hb1)).setCell (by simp <;> omega) _).setCell (by simp <;> omega) _).setCell (by simp <;> omega) _
          · have HT : Hid (testT 14 k n s k' n' s' = 1) := by show _ = _; rw [HQ.out, HO.out]; rfl
            clear HQ HO
            go_wp2_with fail
            refine (rtruth _ _).mono ?_
            rintro e w1 ⟨rfl, hb1⟩
            obtain ⟨hc1, hf1⟩ := bcell hb1; have za1 : w.heap.size < w1.heap.size := (by have := hb1.size; (try simp at this); omega); have zb1 : w.heap.size + 1 < w1.heap.size := (by have := hb1.size; (try simp at this); omega); have zc1 : w.heap.size + 1 + 1 < w1.heap.size := (by have := hb1.size; (try simp at this); omega)
            go_wp2
            refine bodyPost_ret (v := (.agg #[.int .i64 (1), .int .i64 (1), .string (⟨#[]⟩)])) (by simp [results, Try.results18, go_sem, *]) rfl ⟨by rw [HT.out]; rfl, ?_⟩
            exact ((((keepBelow hB hb1)).setCell (by simp <;> omega) _).setCell (by simp <;> omega) _).setCell (by simp <;> omega) _
          · have HT : Hid (testT 15 k n s k' n' s' = 0) := by show _ = _; rw [HQ.out, HO.out]; rfl
            clear HQ HO
            go_wp2_with fail
            refine (rtruth _ _).mono ?_
            rintro e w1 ⟨rfl, hb1⟩
            obtain ⟨hc1, hf1⟩ := bcell hb1; have za1 : w.heap.size < w1.heap.size := (by have := hb1.size; (try simp at this); omega); have zb1 : w.heap.size + 1 < w1.heap.size := (by have := hb1.size; (try simp at this); omega); have zc1 : w.heap.size + 1 + 1 < w1.heap.size := (by have := hb1.size; (try simp at this); omega)
            go_wp2
            refine bodyPost_ret (v := (.agg #[.int .i64 (1), .int .i64 (0), .string (⟨#[]⟩)])) (by simp [results, Try.results18, go_sem, *]) rfl ⟨by rw [HT.out]; rfl, ?_⟩
            exact ((((keepBelow hB hb1)).setCell (by simp <;> omega) _).setCell (by simp <;> omega) _).setCell (by simp <;> omega) _
          · have HT : Hid (testT 16 k n s k' n' s' = 1) := by show _ = _; rw [HQ.out, HO.out]; rfl
            clear HQ HO
            go_wp2_with fail
            refine (rtruth _ _).mono ?_
            rintro e w1 ⟨rfl, hb1⟩
            obtain ⟨hc1, hf1⟩ := bcell hb1; have za1 : w.heap.size < w1.heap.size := (by have := hb1.size; (try simp at this); omega); have zb1 : w.heap.size + 1 < w1.heap.size := (by have := hb1.size; (try simp at this); omega); have zc1 : w.heap.size + 1 + 1 < w1.heap.size := (by have := hb1.size; (try simp at this); omega)
            go_wp2
            refine bodyPost_ret (v := (.agg #[.int .i64 (1), .int .i64 (1), .string (⟨#[]⟩)])) (by simp [results, Try.results18, go_sem, *]) rfl ⟨by rw [HT.out]; rfl, ?_⟩
            exact ((((keepBelow hB hb1)).setCell (by simp <;> omega) _).setCell (by simp <;> omega) _).setCell (by simp <;> omega) _
        · have HO : Hid (ordV k n s k' n' s' = 1) := by have := Hs.out; rw [hl, hr] at this; exact this.symm
          clear Hs Ha
          rcases (show op = 11 ∨ op = 12 ∨ op = 13 ∨ op = 14 ∨ op = 15 ∨ op = 16 by omega) with rfl | rfl | rfl | rfl | rfl | rfl
          · have HT : Hid (testT 11 k n s k' n' s' = 0) := by show _ = _; rw [HQ.out, HO.out]; rfl
            clear HQ HO
            go_wp2_with fail
            refine (rtruth _ _).mono ?_
            rintro e w1 ⟨rfl, hb1⟩
            obtain ⟨hc1, hf1⟩ := bcell hb1; have za1 : w.heap.size < w1.heap.size := (by have := hb1.size; (try simp at this); omega); have zb1 : w.heap.size + 1 < w1.heap.size := (by have := hb1.size; (try simp at this); omega); have zc1 : w.heap.size + 1 + 1 < w1.heap.size := (by have := hb1.size; (try simp at this); omega)
            go_wp2
            refine bodyPost_ret (v := (.agg #[.int .i64 (1), .int .i64 (0), .string (⟨#[]⟩)])) (by simp [results, Try.results18, go_sem, *]) rfl ⟨by rw [HT.out]; rfl, ?_⟩
            exact ((((keepBelow hB hb1)).setCell (by simp <;> omega) _).setCell (by simp <;> omega) _).setCell (by simp <;> omega) _
          · have HT : Hid (testT 12 k n s k' n' s' = 1) := by show _ = _; rw [HQ.out, HO.out]; rfl
            clear HQ HO
            go_wp2_with fail
            refine (rtruth _ _).mono ?_
            rintro e w1 ⟨rfl, hb1⟩
            obtain ⟨hc1, hf1⟩ := bcell hb1; have za1 : w.heap.size < w1.heap.size := (by have := hb1.size; (try simp at this); omega); have zb1 : w.heap.size + 1 < w1.heap.size := (by have := hb1.size; (try simp at this); omega); have zc1 : w.heap.size + 1 + 1 < w1.heap.size := (by have := hb1.size; (try simp at this); omega)
            go_wp2
            refine bodyPost_ret (v := (.agg #[.int .i64 (1), .int .i64 (1), .string (⟨#[]⟩)])) (by simp [results, Try.results18, go_sem, *]) rfl ⟨by rw [HT.out]; rfl, ?_⟩
            exact ((((keepBelow hB hb1)).setCell (by simp <;> omega) _).setCell (by simp <;> omega) _).setCell (by simp <;> omega) _
          · have HT : Hid (testT 13 k n s k' n' s' = 0) := by show _ = _; rw [HQ.out, HO.out]; rfl
            clear HQ HO
            go_wp2_with fail
            refine (rtruth _ _).mono ?_
            rintro e w1 ⟨rfl, hb1⟩
            obtain ⟨hc1, hf1⟩ := bcell hb1; have za1 : w.heap.size < w1.heap.size := (by have := hb1.size; (try simp at this); omega); have zb1 : w.heap.size + 1 < w1.heap.size := (by have := hb1.size; (try simp at this); omega); have zc1 : w.heap.size + 1 + 1 < w1.heap.size := (by have := hb1.size; (try simp at this); omega)
            go_wp2
            refine bodyPost_ret (v := (.agg #[.int .i64 (1), .int .i64 (0), .string (⟨#[]⟩)])) (by simp [results, Try.results18, go_sem, *]) rfl ⟨by rw [HT.out]; rfl, ?_⟩
            exact ((((keepBelow hB hb1)).setCell (by simp <;> omega) _).setCell (by simp <;> omega) _).setCell (by simp <;> omega) _
          · have HT : Hid (testT 14 k n s k' n' s' = 0) := by show _ = _; rw [HQ.out, HO.out]; rfl
            clear HQ HO
            go_wp2_with fail
            refine (rtruth _ _).mono ?_
            rintro e w1 ⟨rfl, hb1⟩
            obtain ⟨hc1, hf1⟩ := bcell hb1; have za1 : w.heap.size < w1.heap.size := (by have := hb1.size; (try simp at this); omega); have zb1 : w.heap.size + 1 < w1.heap.size := (by have := hb1.size; (try simp at this); omega); have zc1 : w.heap.size + 1 + 1 < w1.heap.size := (by have := hb1.size; (try simp at this); omega)
            go_wp2
            refine bodyPost_ret (v := (.agg #[.int .i64 (1), .int .i64 (0), .string (⟨#[]⟩)])) (by simp [results, Try.results18, go_sem, *]) rfl ⟨by rw [HT.out]; rfl, ?_⟩
            exact ((((keepBelow hB hb1)).setCell (by simp <;> omega) _).setCell (by simp <;> omega) _).setCell (by simp <;> omega) _
          · have HT : Hid (testT 15 k n s k' n' s' = 1) := by show _ = _; rw [HQ.out, HO.out]; rfl
            clear HQ HO
            go_wp2_with fail
            refine (rtruth _ _).mono ?_
            rintro e w1 ⟨rfl, hb1⟩
            obtain ⟨hc1, hf1⟩ := bcell hb1; have za1 : w.heap.size < w1.heap.size := (by have := hb1.size; (try simp at this); omega); have zb1 : w.heap.size + 1 < w1.heap.size := (by have := hb1.size; (try simp at this); omega); have zc1 : w.heap.size + 1 + 1 < w1.heap.size := (by have := hb1.size; (try simp at this); omega)
            go_wp2
            refine bodyPost_ret (v := (.agg #[.int .i64 (1), .int .i64 (1), .string (⟨#[]⟩)])) (by simp [results, Try.results18, go_sem, *]) rfl ⟨by rw [HT.out]; rfl, ?_⟩
            exact ((((keepBelow hB hb1)).setCell (by simp <;> omega) _).setCell (by simp <;> omega) _).setCell (by simp <;> omega) _
          · have HT : Hid (testT 16 k n s k' n' s' = 1) := by show _ = _; rw [HQ.out, HO.out]; rfl
            clear HQ HO
            go_wp2_with fail
            refine (rtruth _ _).mono ?_
            rintro e w1 ⟨rfl, hb1⟩
            obtain ⟨hc1, hf1⟩ := bcell hb1; have za1 : w.heap.size < w1.heap.size := (by have := hb1.size; (try simp at this); omega); have zb1 : w.heap.size + 1 < w1.heap.size := (by have := hb1.size; (try simp at this); omega); have zc1 : w.heap.size + 1 + 1 < w1.heap.size := (by have := hb1.size; (try simp at this); omega)
            go_wp2
            refine bodyPost_ret (v := (.agg #[.int .i64 (1), .int .i64 (1), .string (⟨#[]⟩)])) (by simp [results, Try.results18, go_sem, *]) rfl ⟨by rw [HT.out]; rfl, ?_⟩
            exact ((((keepBelow hB hb1)).setCell (by simp <;> omega) _).setCell (by simp <;> omega) _).setCell (by simp <;> omega) _
        · have HO : Hid (ordV k n s k' n' s' = -1) := by have := Hs.out; rw [hl, hr] at this; exact this.symm
          clear Hs Ha
          rcases (show op = 11 ∨ op = 12 ∨ op = 13 ∨ op = 14 ∨ op = 15 ∨ op = 16 by omega) with rfl | rfl | rfl | rfl | rfl | rfl
          · have HT : Hid (testT 11 k n s k' n' s' = 0) := by show _ = _; rw [HQ.out, HO.out]; rfl
            clear HQ HO
            go_wp2_with fail
            refine (rtruth _ _).mono ?_
            rintro e w1 ⟨rfl, hb1⟩
            obtain ⟨hc1, hf1⟩ := bcell hb1; have za1 : w.heap.size < w1.heap.size := (by have := hb1.size; (try simp at this); omega); have zb1 : w.heap.size + 1 < w1.heap.size := (by have := hb1.size; (try simp at this); omega); have zc1 : w.heap.size + 1 + 1 < w1.heap.size := (by have := hb1.size; (try simp at this); omega)
            go_wp2
            refine bodyPost_ret (v := (.agg #[.int .i64 (1), .int .i64 (0), .string (⟨#[]⟩)])) (by simp [results, Try.results18, go_sem, *]) rfl ⟨by rw [HT.out]; rfl, ?_⟩
            exact ((((keepBelow hB hb1)).setCell (by simp <;> omega) _).setCell (by simp <;> omega) _).setCell (by simp <;> omega) _
          · have HT : Hid (testT 12 k n s k' n' s' = 1) := by show _ = _; rw [HQ.out, HO.out]; rfl
            clear HQ HO
            go_wp2_with fail
            refine (rtruth _ _).mono ?_
            rintro e w1 ⟨rfl, hb1⟩
            obtain ⟨hc1, hf1⟩ := bcell hb1; have za1 : w.heap.size < w1.heap.size := (by have := hb1.size; (try simp at this); omega); have zb1 : w.heap.size + 1 < w1.heap.size := (by have := hb1.size; (try simp at this); omega); have zc1 : w.heap.size + 1 + 1 < w1.heap.size := (by have := hb1.size; (try simp at this); omega)
            go_wp2
            refine bodyPost_ret (v := (.agg #[.int .i64 (1), .int .i64 (1), .string (⟨#[]⟩)])) (by simp [results, Try.results18, go_sem, *]) rfl ⟨by rw [HT.out]; rfl, ?_⟩
            exact ((((keepBelow hB hb1)).setCell (by simp <;> omega) _).setCell (by simp <;> omega) _).setCell (by simp <;> omega) _
          · have HT : Hid (testT 13 k n s k' n' s' = 1) := by show _ = _; rw [HQ.out, HO.out]; rfl
            clear HQ HO
            go_wp2_with fail
            refine (rtruth _ _).mono ?_
            rintro e w1 ⟨rfl, hb1⟩
            obtain ⟨hc1, hf1⟩ := bcell hb1; have za1 : w.heap.size < w1.heap.size := (by have := hb1.size; (try simp at this); omega); have zb1 : w.heap.size + 1 < w1.heap.size := (by have := hb1.size; (try simp at this); omega); have zc1 : w.heap.size + 1 + 1 < w1.heap.size := (by have := hb1.size; (try simp at this); omega)
            go_wp2
            refine bodyPost_ret (v := (.agg #[.int .i64 (1), .int .i64 (1), .string (⟨#[]⟩)])) (by simp [results, Try.results18, go_sem, *]) rfl ⟨by rw [HT.out]; rfl, ?_⟩
            exact ((((keepBelow hB hb1)).setCell (by simp <;> omega) _).setCell (by simp <;> omega) _).setCell (by simp <;> omega) _
          · have HT : Hid (testT 14 k n s k' n' s' = 1) := by show _ = _; rw [HQ.out, HO.out]; rfl
            clear HQ HO
            go_wp2_with fail
            refine (rtruth _ _).mono ?_
            rintro e w1 ⟨rfl, hb1⟩
            obtain ⟨hc1, hf1⟩ := bcell hb1; have za1 : w.heap.size < w1.heap.size := (by have := hb1.size; (try simp at this); omega); have zb1 : w.heap.size + 1 < w1.heap.size := (by have := hb1.size; (try simp at this); omega); have zc1 : w.heap.size + 1 + 1 < w1.heap.size := (by have := hb1.size; (try simp at this); omega)
            go_wp2
            refine bodyPost_ret (v := (.agg #[.int .i64 (1), .int .i64 (1), .string (⟨#[]⟩)])) (by simp [results, Try.results18, go_sem, *]) rfl ⟨by rw [HT.out]; rfl, ?_⟩
            exact ((((keepBelow hB hb1)).setCell (by simp <;> omega) _).setCell (by simp <;> omega) _).setCell (by simp <;> omega) _
          · have HT : Hid (testT 15 k n s k' n' s' = 0) := by show _ = _; rw [HQ.out, HO.out]; rfl
            clear HQ HO
            go_wp2_with fail
            refine (rtruth _ _).mono ?_
            rintro e w1 ⟨rfl, hb1⟩
            obtain ⟨hc1, hf1⟩ := bcell hb1; have za1 : w.heap.size < w1.heap.size := (by have := hb1.size; (try simp at this); omega); have zb1 : w.heap.size + 1 < w1.heap.size := (by have := hb1.size; (try simp at this); omega); have zc1 : w.heap.size + 1 + 1 < w1.heap.size := (by have := hb1.size; (try simp at this); omega)
            go_wp2
            refine bodyPost_ret (v := (.agg #[.int .i64 (1), .int .i64 (0), .string (⟨#[]⟩)])) (by simp [results, Try.results18, go_sem, *]) rfl ⟨by rw [HT.out]; rfl, ?_⟩
            exact ((((keepBelow hB hb1)).setCell (by simp <;> omega) _).setCell (by simp <;> omega) _).setCell (by simp <;> omega) _
          · have HT : Hid (testT 16 k n s k' n' s' = 0) := by show _ = _; rw [HQ.out, HO.out]; rfl
            clear HQ HO
            go_wp2_with fail
            refine (rtruth _ _).mono ?_
            rintro e w1 ⟨rfl, hb1⟩
            obtain ⟨hc1, hf1⟩ := bcell hb1; have za1 : w.heap.size < w1.heap.size := (by have := hb1.size; (try simp at this); omega); have zb1 : w.heap.size + 1 < w1.heap.size := (by have := hb1.size; (try simp at this); omega); have zc1 : w.heap.size + 1 + 1 < w1.heap.size := (by have := hb1.size; (try simp at this); omega)
            go_wp2
            refine bodyPost_ret (v := (.agg #[.int .i64 (1), .int .i64 (0), .string (⟨#[]⟩)])) (by simp [results, Try.results18, go_sem, *]) rfl ⟨by rw [HT.out]; rfl, ?_⟩
            exact ((((keepBelow hB hb1)).setCell (by simp <;> omega) _).setCell (by simp <;> omega) _).setCell (by simp <;> omega) _
        · have := Ha.out hl
          rw [hr] at this
          cases this
end Go.Proofs.Ytdhfpfkhhmdfgaa
