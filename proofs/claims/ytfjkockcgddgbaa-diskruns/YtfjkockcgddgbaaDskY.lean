/- relstoreref's disk: Crash -/
import Derived.Test.YtfjkockcgddgbaaDskX
import Derived.Test.YtfjkockcgddgbaaDskA
namespace Go.Proofs.Ytfjkockcgddgbaa
open Go.RowKit Go.Lib
attribute [local go_sem ↓] Go.wp_at_zero Go.wp_at_succ
theorem ronE (f p : Nat) (t : ByteArray) (c : Bool) (s : ByteArray) (w : World) (hp : p + t.size ≤ 67108864) (hc : c = true → t.size = 0) (hs : s.size ≤ 67108864) :
    Calls Try.prog 59 #[.agg #[.int .i64 f, .int .i64 p, .string t, .bool c], .string s] w fun e w' => ∃ y : ByteArray, e = .returned (.string y) ∧ ll y = onL p t c (ll s) ∧ y.size ≤ 67108864 ∧ Below w.heap.size w w' :=
  (ron f p t c s w hp hc hs).mono fun _ _ h => ⟨_, h.1, rfl, by show (onL p t c (ll s)).toArray.size ≤ 67108864; rw [List.size_toArray, onL_len, ll_len]; split <;> omega, h.2⟩
theorem cr_new0 {L L' : Nat → List UInt8} {l0 l1 y : ByteArray} {p : Nat} {t : ByteArray} {c : Bool} (hy : ll y = onL p t c (ll l0)) (h0 : ll l0 = L 1) (h1 : ll l1 = L 3) (hT : L' = updF L (2 * 0 + 1) (onL p t c (L (2 * 0 + 1)))) : ll y = L' 1 ∧ ll l1 = L' 3 := by
  rw [hT]
  exact ⟨by rw [hy, h0, updF_at], by rw [updF_ne _ _ (by decide), h1]⟩
theorem cr_new1 {L L' : Nat → List UInt8} {l0 l1 y : ByteArray} {p : Nat} {t : ByteArray} {c : Bool} (hy : ll y = onL p t c (ll l1)) (h0 : ll l0 = L 1) (h1 : ll l1 = L 3) (hT : L' = updF L (2 * 1 + 1) (onL p t c (L (2 * 1 + 1)))) : ll l0 = L' 1 ∧ ll y = L' 3 := by
  rw [hT]
  exact ⟨by rw [updF_ne _ _ (by decide), h0], by rw [hy, h1, updF_at]⟩
set_option maxRecDepth 20000 in
set_option maxHeartbeats 10000000 in
theorem rcrash (a : Option Addr) (n cap : Nat) (fk : Nat → Int) (X : World) (B D : Nat) (l0 l1 : ByteArray) (vw : Value) (ws : List Chg) (left count : Int) (down : Bool) (h : RD X B D l0 l1 vw ws left count down) (hB : B ≤ X.heap.size) (hw : ws.length ≤ 1000000) (hn : n ≤ 140737488355328) (hk : liesI tyR X B a n fk) (lb : Nat → List UInt8) (e1 : lb 1 = ll l0) (e3 : lb 3 = ll l1) :
    Calls Try.prog 36 #[(.pointer (some ⟨D, 0, none⟩)), .slice a n cap] X fun e w' => e = .returned (.tuple #[]) ∧ (∃ l0' l1', RD w' B D l0' l1' (.slice none 0 0) [] (-1) count false ∧ ll l0' = crL (fateI n fk) ws lb ws.length 1 ∧ ll l1' = crL (fateI n fk) ws lb ws.length 3) ∧ BelT tyR B X w' := by
  have H : Hid (RD X B D l0 l1 vw ws left count down) := h
  have HK : Hid (liesI tyR X B a n fk) := hk
  have hlow := h.low
  obtain ⟨aw, cw, rfl⟩ := owns_sliceA h.wrow
  have c2 := h.cells.2.2.1
  have HNF : Hid (¬ farT tyR X D) := h.nf
  have E1 : Hid _ := e1
  have E3 : Hid _ := e3
  clear h hk e1 e3
  go_enter Try.func36, Try.ntmps36
  go_wp2_with fail
  go_loopw [12] (fun u w => ∃ (i : Nat) (y0 y1 : ByteArray), u = .int .i64 i ∧ i ≤ ws.length ∧ Hid (RD w B D y0 y1 (.slice aw ws.length cw) ws left count down) ∧ Hid (ll y0 = crL (fateI n fk) ws lb i 1) ∧ Hid (ll y1 = crL (fateI n fk) ws lb i 3) ∧ Hid (BelT tyR B X w)) (fun u _ => ws.length - (intOf u).toNat)
  case atStart => exact ⟨0, l0, l1, rfl, Nat.zero_le _, H, E1.out.symm, E3.out.symm, BelT.refl _ _ _⟩
  case round =>
    clear E1 E3
    obtain ⟨i, y0, y1, rfl, hin, HQ, E0, E1, HB⟩ := hrel
    by_cases hlt : i < ws.length
    · have ki : (0 : Int) ≤ (i : Int) := by omega
      have kn : (i : Int) < (ws.length : Int) := by omega
      obtain ⟨g, cap', ee, _, _⟩ := World.ownsRow.form HQ.out.wrow (by omega)
      injection ee with ee1 ee2 ee3
      subst ee1 ee3
      obtain ⟨xf, p, t, c, hx⟩ : ∃ xf p t c, ws[i] = (⟨xf, p, t, c⟩ : Chg) := ⟨_, _, _, _, rfl⟩
      have hX : okC ⟨xf, p, t, c⟩ := hx ▸ HQ.out.oks _ (List.getElem_mem hlt)
      have HX : Hid _ := hX
      have hxf : xf < 2 := hX.1
      have hpt : p + t.size ≤ 67108864 := hX.2.1
      obtain ⟨d0, d1, d2, d3⟩ := racells HQ.out hlt hx
      have HT : Hid _ := (crL_succ (fa := fateI n fk) (lb := lb) hlt).trans (by rw [hx])
      have zb := HB.out.size
      have zg := (World.ownsRow.lt HQ.out.wrow g rfl).2
      have zD := HQ.out.lt
      have hBwr : B ≤ wr.heap.size := Nat.le_trans hB zb
      obtain ⟨s0, s1, -⟩ := HQ.out.cells
      have H1 : Hid (RD (wr.alloc (.cells #[.int .i64 xf, .int .i64 p, .string t, .bool c] 102)) B D y0 y1 (.slice (some ⟨g, 0, none⟩) ws.length cw) ws left count down) := HQ.out.below ((Below.refl _ _).alloc (Nat.le_refl _) _)
      have HBA : Hid (BelT tyR B X (wr.alloc (.cells #[.int .i64 xf, .int .i64 p, .string t, .bool c] 102))) := HB.out.alloc hBwr _
      clear hx hX
      by_cases h0 : n = 0
      · subst h0
        have e9 : crS (fateI 0 fk i) ⟨xf, p, t, c⟩ (crL (fateI 0 fk) ws lb i) = crL (fateI 0 fk) ws lb i := by unfold crS fateI; rw [if_pos rfl, if_neg (by decide), if_neg (by decide)]
        have EE : Hid _ := HT.out.trans e9
        clear e9
        go_wp2_with fail
        exact ⟨⟨i + 1, y0, y1, rfl, by omega, H1, by rw [EE.out]; exact E0.out, by rw [EE.out]; exact E1.out, HBA⟩, by simp [intOf]; omega⟩
      · obtain ⟨b, off, rfl, hcc⟩ := (liesI.below HK.out HB.out).resolve_left h0
        have hmod := Nat.mod_lt i (show 0 < n by omega)
        have hq := hcc _ hmod
        have hbw : b < wr.heap.size := by
          rcases Nat.lt_or_ge b wr.heap.size with h' | h'
          · exact h'
          · simp [World.cell?, Array.getElem?_eq_none h'] at hq
        have eF : fateI n fk i = fk (i % n) := by unfold fateI; rw [if_neg h0]
        rw [eF] at HT
        have m1 : Int.tmod (i : Int) (n : Int) = ((i % n : Nat) : Int) := by rw [Int.tmod_eq_emod_of_nonneg (by omega)]; omega
        have m2 : (0 : Int) ≤ ((i % n : Nat) : Int) := by omega
        have m3 : ((i % n : Nat) : Int) < (n : Int) := by omega
        have m4 : ¬ (n : Int) = 0 := by omega
        have m5 : (0 : Int) < (n : Int) := by omega
        clear hcc eF
        generalize fk (i % n) = q at *
        by_cases hf1 : q = 1
        · subst hf1
          have e9 : crS 1 ⟨xf, p, t, c⟩ (crL (fateI n fk) ws lb i) = updF (crL (fateI n fk) ws lb i) (2 * xf + 1) (onL p t c (crL (fateI n fk) ws lb i (2 * xf + 1))) := by unfold crS; rw [if_pos rfl]
          have HT2 : Hid _ := HT.out.trans e9
          have KP : Hid (p + t.size ≤ 67108864) := hpt
          have KC : Hid (c = true → t.size = 0) := HX.out.2.2
          clear e9 HT
          rcases (show xf = 0 ∨ xf = 1 by omega) with rfl | rfl
          ·
            go_wp2_with fail
            first | (go_quiet (fail); go_wp2_with fail) | skip
            go_region_with (go_at_call 59; refine (ronE 0 p t c y0 _ KP.out KC.out HQ.out.s0).mono ?_; rintro e w2 ⟨y, rfl, hy, hys, hb⟩; have hbb : Below wr.heap.size wr w2 := (by first | exact (below_boxd hb).1 | exact (below_box hb).1 | exact (below_box (m := 0) hb).1); have hbx := (below_boxd hb).2; have b0 : w2.cell? ⟨wr.heap.size, 0, none⟩ = some (.int .i64 0) := (by simp [World.cell?, hbx]); have b1 : w2.cell? ⟨wr.heap.size, 1, none⟩ = some (.int .i64 p) := (by simp [World.cell?, hbx]); have b2 : w2.cell? ⟨wr.heap.size, 2, none⟩ = some (.string t) := (by simp [World.cell?, hbx]); have b3 : w2.cell? ⟨wr.heap.size, 3, none⟩ = some (.bool c) := (by simp [World.cell?, hbx]); have HYS : Hid (y.size ≤ 67108864) := hys; have HN : Hid _ := cr_new0 hy E0.out E1.out HT2.out; have HQ2 : Hid _ := HQ.out.below hbb; have HB2 : Hid (BelT tyR B X w2) := HB.out.trans (BelT.ofSize hbb hBwr); have q0 := HQ2.out.cells.1; have f0 := HQ2.out.unfrozen 0; clear hb hbb hbx hy hys d0 d1 d2 d3)
            all_goals
              have HS : Hid (RD (w2.setCell ⟨D, 0, none⟩ (.string y)) B D y y1 (.slice (some ⟨g, 0, none⟩) ws.length cw) ws left count down) := HQ2.out.own HYS.out HQ2.out.s1 rfl
              have HBS : Hid (BelT tyR B X (w2.setCell ⟨D, 0, none⟩ (.string y))) := HB2.out.setCell hlow (fun _ => HNF.out) _
              clear HQ2 HB2
              go_wp2
              go_roundw
              case rel => exact ⟨i + 1, y, y1, by go_num, by omega, HS, HN.out.1, HN.out.2, HBS⟩
              case measure => simp [intOf]; omega
          ·
            go_wp2_with fail
            first | (go_quiet (fail); go_wp2_with fail) | skip
            go_region_with (go_at_call 59; refine (ronE 1 p t c y1 _ KP.out KC.out HQ.out.s1).mono ?_; rintro e w2 ⟨y, rfl, hy, hys, hb⟩; have hbb : Below wr.heap.size wr w2 := (by first | exact (below_boxd hb).1 | exact (below_box hb).1 | exact (below_box (m := 0) hb).1); have hbx := (below_boxd hb).2; have b0 : w2.cell? ⟨wr.heap.size, 0, none⟩ = some (.int .i64 1) := (by simp [World.cell?, hbx]); have b1 : w2.cell? ⟨wr.heap.size, 1, none⟩ = some (.int .i64 p) := (by simp [World.cell?, hbx]); have b2 : w2.cell? ⟨wr.heap.size, 2, none⟩ = some (.string t) := (by simp [World.cell?, hbx]); have b3 : w2.cell? ⟨wr.heap.size, 3, none⟩ = some (.bool c) := (by simp [World.cell?, hbx]); have HYS : Hid (y.size ≤ 67108864) := hys; have HN : Hid _ := cr_new1 hy E0.out E1.out HT2.out; have HQ2 : Hid _ := HQ.out.below hbb; have HB2 : Hid (BelT tyR B X w2) := HB.out.trans (BelT.ofSize hbb hBwr); have q1 := HQ2.out.cells.2.1; have f1 := HQ2.out.unfrozen 1; clear hb hbb hbx hy hys d0 d1 d2 d3)
            all_goals
              have HS : Hid (RD (w2.setCell ⟨D, 1, none⟩ (.string y)) B D y0 y (.slice (some ⟨g, 0, none⟩) ws.length cw) ws left count down) := HQ2.out.own HQ2.out.s0 HYS.out rfl
              have HBS : Hid (BelT tyR B X (w2.setCell ⟨D, 1, none⟩ (.string y))) := HB2.out.setCell hlow (fun _ => HNF.out) _
              clear HQ2 HB2
              go_wp2
              go_roundw
              case rel => exact ⟨i + 1, y0, y, by go_num, by omega, HS, HN.out.1, HN.out.2, HBS⟩
              case measure => simp [intOf]; omega
        · by_cases hf2 : q = 2
          · subst hf2
            have e9 : crS 2 ⟨xf, p, t, c⟩ (crL (fateI n fk) ws lb i) = updF (crL (fateI n fk) ws lb i) (2 * xf + 1) (onL p (half t) c (crL (fateI n fk) ws lb i (2 * xf + 1))) := by unfold crS; rw [if_neg (by decide), if_pos rfl]
            have HT2 : Hid _ := HT.out.trans e9
            clear e9 HT
            cases c
            · have ew : wrap64 ((t.size : Int) / 2) = (t.size : Int) / 2 := by unfold wrap64; omega
              have kh : (t.size : Int) / 2 ≤ (t.size : Int) := by omega
              have kz : (0 : Int) ≤ (t.size : Int) / 2 := by omega
              have eh : t.extract 0 ((t.size : Int) / 2).toNat = half t := by unfold half; rw [show ((t.size : Int) / 2).toNat = t.size / 2 by omega]
              have KP : Hid (p + (half t).size ≤ 67108864) := (by rw [half_size]; omega : p + (half t).size ≤ 67108864)
              have KC : Hid (false = true → (half t).size = 0) := ((fun h => by cases h) : false = true → (half t).size = 0)
              rcases (show xf = 0 ∨ xf = 1 by omega) with rfl | rfl
              ·
                go_wp2_with fail
                first | (go_quiet (fail); go_wp2_with fail) | skip
                go_region_with (go_at_call 59; refine (ronE 0 p (half t) false y0 _ KP.out KC.out HQ.out.s0).mono ?_; rintro e w2 ⟨y, rfl, hy, hys, hb⟩; have hbb : Below wr.heap.size wr w2 := (by first | exact (below_boxd hb).1 | exact (below_box hb).1 | exact (below_box (m := 0) hb).1); have hbx := (below_boxd hb).2; have b0 : w2.cell? ⟨wr.heap.size, 0, none⟩ = some (.int .i64 0) := (by simp [World.cell?, hbx]); have b1 : w2.cell? ⟨wr.heap.size, 1, none⟩ = some (.int .i64 p) := (by simp [World.cell?, hbx]); have b2 : w2.cell? ⟨wr.heap.size, 2, none⟩ = some (.string (half t)) := (by simp [World.cell?, hbx]); have b3 : w2.cell? ⟨wr.heap.size, 3, none⟩ = some (.bool false) := (by simp [World.cell?, hbx]); have HYS : Hid (y.size ≤ 67108864) := hys; have HN : Hid _ := cr_new0 hy E0.out E1.out HT2.out; have HQ2 : Hid _ := HQ.out.below hbb; have HB2 : Hid (BelT tyR B X w2) := HB.out.trans (BelT.ofSize hbb hBwr); have q0 := HQ2.out.cells.1; have f0 := HQ2.out.unfrozen 0; clear hb hbb hbx hy hys d0 d1 d2 d3)
                all_goals
                  have HS : Hid (RD (w2.setCell ⟨D, 0, none⟩ (.string y)) B D y y1 (.slice (some ⟨g, 0, none⟩) ws.length cw) ws left count down) := HQ2.out.own HYS.out HQ2.out.s1 rfl
                  have HBS : Hid (BelT tyR B X (w2.setCell ⟨D, 0, none⟩ (.string y))) := HB2.out.setCell hlow (fun _ => HNF.out) _
                  clear HQ2 HB2
                  go_wp2
                  go_roundw
                  case rel => exact ⟨i + 1, y, y1, by go_num, by omega, HS, HN.out.1, HN.out.2, HBS⟩
                  case measure => simp [intOf]; omega
              ·
                go_wp2_with fail
                first | (go_quiet (fail); go_wp2_with fail) | skip
                go_region_with (go_at_call 59; refine (ronE 1 p (half t) false y1 _ KP.out KC.out HQ.out.s1).mono ?_; rintro e w2 ⟨y, rfl, hy, hys, hb⟩; have hbb : Below wr.heap.size wr w2 := (by first | exact (below_boxd hb).1 | exact (below_box hb).1 | exact (below_box (m := 0) hb).1); have hbx := (below_boxd hb).2; have b0 : w2.cell? ⟨wr.heap.size, 0, none⟩ = some (.int .i64 1) := (by simp [World.cell?, hbx]); have b1 : w2.cell? ⟨wr.heap.size, 1, none⟩ = some (.int .i64 p) := (by simp [World.cell?, hbx]); have b2 : w2.cell? ⟨wr.heap.size, 2, none⟩ = some (.string (half t)) := (by simp [World.cell?, hbx]); have b3 : w2.cell? ⟨wr.heap.size, 3, none⟩ = some (.bool false) := (by simp [World.cell?, hbx]); have HYS : Hid (y.size ≤ 67108864) := hys; have HN : Hid _ := cr_new1 hy E0.out E1.out HT2.out; have HQ2 : Hid _ := HQ.out.below hbb; have HB2 : Hid (BelT tyR B X w2) := HB.out.trans (BelT.ofSize hbb hBwr); have q1 := HQ2.out.cells.2.1; have f1 := HQ2.out.unfrozen 1; clear hb hbb hbx hy hys d0 d1 d2 d3)
                all_goals
                  have HS : Hid (RD (w2.setCell ⟨D, 1, none⟩ (.string y)) B D y0 y (.slice (some ⟨g, 0, none⟩) ws.length cw) ws left count down) := HQ2.out.own HQ2.out.s0 HYS.out rfl
                  have HBS : Hid (BelT tyR B X (w2.setCell ⟨D, 1, none⟩ (.string y))) := HB2.out.setCell hlow (fun _ => HNF.out) _
                  clear HQ2 HB2
                  go_wp2
                  go_roundw
                  case rel => exact ⟨i + 1, y0, y, by go_num, by omega, HS, HN.out.1, HN.out.2, HBS⟩
                  case measure => simp [intOf]; omega
            · have et : half t = t := by
                have hz := HX.out.2.2 rfl
                have hz : t.size = 0 := hz
                apply ll_inj
                rw [List.eq_nil_of_length_eq_zero (show (ll t).length = 0 by rw [ll_len]; exact hz), List.eq_nil_of_length_eq_zero (show (ll (half t)).length = 0 by rw [ll_len, half_size, hz])]
              rw [et] at HT2
              have KP : Hid (p + t.size ≤ 67108864) := hpt
              have KC : Hid (t.size = 0) := HX.out.2.2 rfl
              clear et
              rcases (show xf = 0 ∨ xf = 1 by omega) with rfl | rfl
              ·
                go_wp2_with fail
                first | (go_quiet (fail); go_wp2_with fail) | skip
                go_region_with (go_at_call 59; refine (ronE 0 p t true y0 _ KP.out (fun _ => KC.out) HQ.out.s0).mono ?_; rintro e w2 ⟨y, rfl, hy, hys, hb⟩; have hbb : Below wr.heap.size wr w2 := (by first | exact (below_boxd hb).1 | exact (below_box hb).1 | exact (below_box (m := 0) hb).1); have hbx := (below_boxd hb).2; have b0 : w2.cell? ⟨wr.heap.size, 0, none⟩ = some (.int .i64 0) := (by simp [World.cell?, hbx]); have b1 : w2.cell? ⟨wr.heap.size, 1, none⟩ = some (.int .i64 p) := (by simp [World.cell?, hbx]); have b2 : w2.cell? ⟨wr.heap.size, 2, none⟩ = some (.string t) := (by simp [World.cell?, hbx]); have b3 : w2.cell? ⟨wr.heap.size, 3, none⟩ = some (.bool true) := (by simp [World.cell?, hbx]); have HYS : Hid (y.size ≤ 67108864) := hys; have HN : Hid _ := cr_new0 hy E0.out E1.out HT2.out; have HQ2 : Hid _ := HQ.out.below hbb; have HB2 : Hid (BelT tyR B X w2) := HB.out.trans (BelT.ofSize hbb hBwr); have q0 := HQ2.out.cells.1; have f0 := HQ2.out.unfrozen 0; clear hb hbb hbx hy hys d0 d1 d2 d3)
                all_goals
                  have HS : Hid (RD (w2.setCell ⟨D, 0, none⟩ (.string y)) B D y y1 (.slice (some ⟨g, 0, none⟩) ws.length cw) ws left count down) := HQ2.out.own HYS.out HQ2.out.s1 rfl
                  have HBS : Hid (BelT tyR B X (w2.setCell ⟨D, 0, none⟩ (.string y))) := HB2.out.setCell hlow (fun _ => HNF.out) _
                  clear HQ2 HB2
                  go_wp2
                  go_roundw
                  case rel => exact ⟨i + 1, y, y1, by go_num, by omega, HS, HN.out.1, HN.out.2, HBS⟩
                  case measure => simp [intOf]; omega
              ·
                go_wp2_with fail
                first | (go_quiet (fail); go_wp2_with fail) | skip
                go_region_with (go_at_call 59; refine (ronE 1 p t true y1 _ KP.out (fun _ => KC.out) HQ.out.s1).mono ?_; rintro e w2 ⟨y, rfl, hy, hys, hb⟩; have hbb : Below wr.heap.size wr w2 := (by first | exact (below_boxd hb).1 | exact (below_box hb).1 | exact (below_box (m := 0) hb).1); have hbx := (below_boxd hb).2; have b0 : w2.cell? ⟨wr.heap.size, 0, none⟩ = some (.int .i64 1) := (by simp [World.cell?, hbx]); have b1 : w2.cell? ⟨wr.heap.size, 1, none⟩ = some (.int .i64 p) := (by simp [World.cell?, hbx]); have b2 : w2.cell? ⟨wr.heap.size, 2, none⟩ = some (.string t) := (by simp [World.cell?, hbx]); have b3 : w2.cell? ⟨wr.heap.size, 3, none⟩ = some (.bool true) := (by simp [World.cell?, hbx]); have HYS : Hid (y.size ≤ 67108864) := hys; have HN : Hid _ := cr_new1 hy E0.out E1.out HT2.out; have HQ2 : Hid _ := HQ.out.below hbb; have HB2 : Hid (BelT tyR B X w2) := HB.out.trans (BelT.ofSize hbb hBwr); have q1 := HQ2.out.cells.2.1; have f1 := HQ2.out.unfrozen 1; clear hb hbb hbx hy hys d0 d1 d2 d3)
                all_goals
                  have HS : Hid (RD (w2.setCell ⟨D, 1, none⟩ (.string y)) B D y0 y (.slice (some ⟨g, 0, none⟩) ws.length cw) ws left count down) := HQ2.out.own HQ2.out.s0 HYS.out rfl
                  have HBS : Hid (BelT tyR B X (w2.setCell ⟨D, 1, none⟩ (.string y))) := HB2.out.setCell hlow (fun _ => HNF.out) _
                  clear HQ2 HB2
                  go_wp2
                  go_roundw
                  case rel => exact ⟨i + 1, y0, y, by go_num, by omega, HS, HN.out.1, HN.out.2, HBS⟩
                  case measure => simp [intOf]; omega
          · have e9 : crS q ⟨xf, p, t, c⟩ (crL (fateI n fk) ws lb i) = crL (fateI n fk) ws lb i := by unfold crS; rw [if_neg hf1, if_neg hf2]
            have EE : Hid _ := HT.out.trans e9
            have n1 : (q != 1) = true := by simpa using hf1
            have n2 : (q != 2) = true := by simpa using hf2
            clear e9
            go_wp2_with fail
            exact ⟨⟨i + 1, y0, y1, rfl, by omega, H1, by rw [EE.out]; exact E0.out, by rw [EE.out]; exact E1.out, HBA⟩, by simp [intOf]; omega⟩
    · obtain rfl : i = ws.length := by omega
      have f2 := HQ.out.unfrozen 2
      have f3 := HQ.out.unfrozen 3
      have f4 := HQ.out.unfrozen 4
      obtain ⟨c0, c1, c2', c3, c4, c5⟩ := HQ.out.cells
      have HF : Hid (RD (((wr.setCell ⟨D, 2, none⟩ (.slice none 0 0)).setCell ⟨D, 3, none⟩ (.int .i64 (-1))).setCell ⟨D, 4, none⟩ (.bool false)) B D y0 y1 (.slice none 0 0) [] (-1) count false) := ((RD.setW HQ.out (World.ownsRow_nil wr B 102 4) (Nat.le_refl _) (ws' := []) (fun x hx => by cases hx)).own (left' := -1) (count' := count) (down' := down) HQ.out.s0 HQ.out.s1 rfl).own HQ.out.s0 HQ.out.s1 rfl
      have HB2 : Hid (BelT tyR B X (((wr.setCell ⟨D, 2, none⟩ (.slice none 0 0)).setCell ⟨D, 3, none⟩ (.int .i64 (-1))).setCell ⟨D, 4, none⟩ (.bool false))) := ((HB.out.setCell hlow (fun _ => HNF.out) _).setCell hlow (fun _ => HNF.out) _).setCell hlow (fun _ => HNF.out) _
      go_wp2_with fail
      go_end0
      exact ⟨rfl, ⟨y0, y1, HF.out, E0.out, E1.out⟩, HB2.out⟩
end Go.Proofs.Ytfjkockcgddgbaa
