/- The contract of relstoreref.Reckon: the same answer as value.Reckon gives. -/
import Derived.Test.YtohdfohnajifaaaLong9
namespace Go.Proofs.Ytohdfohnajifaaa
open Go.RowKit
attribute [local go_sem ↓] Go.wp_at_zero Go.wp_at_succ

theorem sg_abs (x : Int) : sg (decide (x < 0)) x.natAbs = x := by
  rcases Int.lt_or_le x 0 with h | h
  · rw [decide_eq_true h]; simp [sg]; omega
  · rw [decide_eq_false (by omega)]; simp [sg]; omega
theorem sg_not (x : Int) : sg (!(decide (x < 0))) x.natAbs = -x := by
  rcases Int.lt_or_le x 0 with h | h
  · rw [decide_eq_true h]; simp [sg]; omega
  · rw [decide_eq_false (by omega)]; simp [sg]; omega

set_option maxRecDepth 20000 in
set_option maxHeartbeats 1000000 in
theorem rreck5 (x y : Int) (s s' : ByteArray) (w : World) (hx : fits x = true) (hy : fits y = true) :
    Calls Try.prog 26 #[.int .i64 5, (.agg #[.int .i64 (2), .int .i64 (x), .string (s)]), (.agg #[.int .i64 (2), .int .i64 (y), .string (s')])] w fun e w' => e = .returned (.agg #[.int .i64 (rK (fits (x + y))), .int .i64 (rN (fits (x + y)) (x + y)), .string (⟨#[]⟩)]) ∧ Below w.heap.size w w' := by
  have HX : Hid (fits x = true) := hx
  have HY : Hid (fits y = true) := hy
  clear hx hy
  go_enter Try.func26, Try.ntmps26
  go_upto_region 3 with fail
  have hw0 : Below w.heap.size w (((w.alloc (.cells #[.int .i64 2, .int .i64 x, .string s] 23)).alloc (.cells #[.int .i64 2, .int .i64 y, .string s'] 23)).alloc (.cells #[.int .i64 0, .int .i64 0, .string ⟨#[]⟩] 23)) := ((((Below.refl _ _).alloc (Nat.le_refl _) _).alloc (by simp) _).alloc (by simp; omega) _)
  refine regL w.heap.size x y HX.out HY.out (by simp) (by go_simp) (by go_simp) (by simp) rfl rfl rfl (by kernel_rfl) (by kernel_rfl) (by kernel_rfl) (by kernel_rfl) (by kernel_rfl) (by kernel_rfl) (by kernel_rfl) (by kernel_rfl) ?_
  intro u18 u19 u20 u21 u22 u23 b b' v v' X hB zb zb' hne hbx hdx hby hdy
  have HB : Hid (Below w.heap.size w X) := hw0.trans (hB.mono hw0.size)
  obtain ⟨hc, hfz⟩ := bcell hB
  have c0 : X.cell? ⟨w.heap.size + 1 + 1, 0, none⟩ = some (.int .i64 0) := by rw [hc _ _ (by simp)]; go_simp
  have c1 : X.cell? ⟨w.heap.size + 1 + 1, 1, none⟩ = some (.int .i64 0) := by rw [hc _ _ (by simp)]; go_simp
  have c2 : X.cell? ⟨w.heap.size + 1 + 1, 2, none⟩ = some (.string ⟨#[]⟩) := by rw [hc _ _ (by simp)]; go_simp
  have f0 : X.frozen? ⟨w.heap.size + 1 + 1, 0, none⟩ = false := by rw [hfz _ _ (by simp)]; go_simp
  have f1 : X.frozen? ⟨w.heap.size + 1 + 1, 1, none⟩ = false := by rw [hfz _ _ (by simp)]; go_simp
  have f2 : X.frozen? ⟨w.heap.size + 1 + 1, 2, none⟩ = false := by rw [hfz _ _ (by simp)]; go_simp
  have a1 : X.cell? ⟨w.heap.size, 1, none⟩ = some (.int .i64 x) := by rw [hc _ _ (by simp; omega)]; go_simp
  have a2 : X.cell? ⟨w.heap.size + 1, 1, none⟩ = some (.int .i64 y) := by rw [hc _ _ (by simp)]; go_simp
  have zR : w.heap.size + 1 + 1 < X.heap.size := keepSize hB (by simp)
  have x0 := hbx.cell0
  have x1 := hbx.cell1
  have y0 := hby.cell0
  have y1 := hby.cell1
  have y2 := hby.frozen 0
  obtain ⟨ga, gk, gc, gf, rfl, -⟩ := (show DgS _ _ _ _ from hdx)
  obtain ⟨ha, hk, hc', hf', rfl, -⟩ := (show DgS _ _ _ _ from hdy)
  have zb1 : w.heap.size + 1 + 1 ≠ b' := by simp at zb'; omega
  have DX : Hid (DgS 5 X (.slice ga gk gc) x.natAbs) := hdx
  have DY : Hid (DgS 5 X (.slice ha hk hc') y.natAbs) := hdy
  clear hdx hdy hc hfz hB hbx hby hw0
  simp only [sets, List.setIfInBounds_toArray, List.set_cons_zero, List.set_cons_succ]
  have d0 := c0
  have d1 := c1
  have d2 := c2
  have e0 := f0
  have e1 := f1
  have e2 := f2
  go_wp2_with fail
  refine (cplus _ _ _ _ _ _ _ (DX.out.wide (by omega)) (DY.out.wide (by omega))).mono ?_
  rintro e w1 ⟨r, v1, z1, rfl, hd1, hz1, hb1⟩
  obtain ⟨ia, ik, ic, jf, rfl, -⟩ := (show DgS _ _ _ _ from hd1)
  have HZ : Hid (sg r z1 = x + y) := by show sg r z1 = x + y; rw [hz1, sg_abs, sg_abs]
  have D1 : Hid (DgS 21 w1 (.slice ia ik ic) z1) := hd1
  clear hd1 hz1
  go_wp2_with fail
  refine (cvalue _ _ _ _ (D1.out.wide (by omega))).mono ?_
  rintro e w2 ⟨rfl, hb2⟩
  rw [HZ.out]
  have hb12 : Below X.heap.size X w2 := hb1.trans (hb2.mono hb1.size)
  obtain ⟨hc2, hf2⟩ := bcell hb12
  have zq : w.heap.size + 1 + 1 < X.heap.size := by simpa using zR
  have q0 := keepCell hb12 zq d0
  have q1 := keepCell hb12 zq d1
  have q2 := keepCell hb12 zq d2
  have r0 : w2.frozen? ⟨w.heap.size + 1 + 1, 0, none⟩ = false := by rw [hf2 _ _ zq]; exact e0
  have r1 : w2.frozen? ⟨w.heap.size + 1 + 1, 1, none⟩ = false := by rw [hf2 _ _ zq]; exact e1
  have r2 : w2.frozen? ⟨w.heap.size + 1 + 1, 2, none⟩ = false := by rw [hf2 _ _ zq]; exact e2
  have HB2 : Hid (Below w.heap.size w w2) := keepBelow HB.out hb12
  clear hb1 hb2 hb12 hc2 hf2 c0 c1 c2 f0 f1 f2 d0 d1 d2 e0 e1 e2
  go_wp2
  refine bodyPost_ret (v := (.agg #[.int .i64 (rK (fits (x + y))), .int .i64 (rN (fits (x + y)) (x + y)), .string (⟨#[]⟩)])) (by simp [results, Try.results26, go_sem, *]) rfl ⟨rfl, ?_⟩
  exact (((HB2.out).setCell (by simp <;> omega) _).setCell (by simp <;> omega) _).setCell (by simp <;> omega) _

set_option maxRecDepth 20000 in
set_option maxHeartbeats 1000000 in
theorem rreck7 (x y : Int) (s s' : ByteArray) (w : World) (hx : fits x = true) (hy : fits y = true) :
    Calls Try.prog 26 #[.int .i64 7, (.agg #[.int .i64 (2), .int .i64 (x), .string (s)]), (.agg #[.int .i64 (2), .int .i64 (y), .string (s')])] w fun e w' => e = .returned (.agg #[.int .i64 (rK (fits (x * y))), .int .i64 (rN (fits (x * y)) (x * y)), .string (⟨#[]⟩)]) ∧ Below w.heap.size w w' := by
  have HX : Hid (fits x = true) := hx
  have HY : Hid (fits y = true) := hy
  clear hx hy
  go_enter Try.func26, Try.ntmps26
  go_upto_region 3 with fail
  have hw0 : Below w.heap.size w (((w.alloc (.cells #[.int .i64 2, .int .i64 x, .string s] 23)).alloc (.cells #[.int .i64 2, .int .i64 y, .string s'] 23)).alloc (.cells #[.int .i64 0, .int .i64 0, .string ⟨#[]⟩] 23)) := ((((Below.refl _ _).alloc (Nat.le_refl _) _).alloc (by simp) _).alloc (by simp; omega) _)
  refine regL w.heap.size x y HX.out HY.out (by simp) (by go_simp) (by go_simp) (by simp) rfl rfl rfl (by kernel_rfl) (by kernel_rfl) (by kernel_rfl) (by kernel_rfl) (by kernel_rfl) (by kernel_rfl) (by kernel_rfl) (by kernel_rfl) ?_
  intro u18 u19 u20 u21 u22 u23 b b' v v' X hB zb zb' hne hbx hdx hby hdy
  have HB : Hid (Below w.heap.size w X) := hw0.trans (hB.mono hw0.size)
  obtain ⟨hc, hfz⟩ := bcell hB
  have c0 : X.cell? ⟨w.heap.size + 1 + 1, 0, none⟩ = some (.int .i64 0) := by rw [hc _ _ (by simp)]; go_simp
  have c1 : X.cell? ⟨w.heap.size + 1 + 1, 1, none⟩ = some (.int .i64 0) := by rw [hc _ _ (by simp)]; go_simp
  have c2 : X.cell? ⟨w.heap.size + 1 + 1, 2, none⟩ = some (.string ⟨#[]⟩) := by rw [hc _ _ (by simp)]; go_simp
  have f0 : X.frozen? ⟨w.heap.size + 1 + 1, 0, none⟩ = false := by rw [hfz _ _ (by simp)]; go_simp
  have f1 : X.frozen? ⟨w.heap.size + 1 + 1, 1, none⟩ = false := by rw [hfz _ _ (by simp)]; go_simp
  have f2 : X.frozen? ⟨w.heap.size + 1 + 1, 2, none⟩ = false := by rw [hfz _ _ (by simp)]; go_simp
  have a1 : X.cell? ⟨w.heap.size, 1, none⟩ = some (.int .i64 x) := by rw [hc _ _ (by simp; omega)]; go_simp
  have a2 : X.cell? ⟨w.heap.size + 1, 1, none⟩ = some (.int .i64 y) := by rw [hc _ _ (by simp)]; go_simp
  have zR : w.heap.size + 1 + 1 < X.heap.size := keepSize hB (by simp)
  have x0 := hbx.cell0
  have x1 := hbx.cell1
  have y0 := hby.cell0
  have y1 := hby.cell1
  have y2 := hby.frozen 0
  obtain ⟨ga, gk, gc, gf, rfl, -⟩ := (show DgS _ _ _ _ from hdx)
  obtain ⟨ha, hk, hc', hf', rfl, -⟩ := (show DgS _ _ _ _ from hdy)
  have zb1 : w.heap.size + 1 + 1 ≠ b' := by simp at zb'; omega
  have DX : Hid (DgS 5 X (.slice ga gk gc) x.natAbs) := hdx
  have DY : Hid (DgS 5 X (.slice ha hk hc') y.natAbs) := hdy
  clear hdx hdy hc hfz hB hbx hby hw0
  simp only [sets, List.setIfInBounds_toArray, List.set_cons_zero, List.set_cons_succ]
  have d0 := c0
  have d1 := c1
  have d2 := c2
  have e0 := f0
  have e1 := f1
  have e2 := f2
  go_wp2_with fail
  refine (ctimes _ _ _ _ _ _ _ DX.out DY.out).mono ?_
  rintro e w1 ⟨r, v1, z1, rfl, hd1, hz1, hb1⟩
  obtain ⟨ia, ik, ic, jf, rfl, -⟩ := (show DgS _ _ _ _ from hd1)
  have HZ : Hid (sg r z1 = x * y) := by show sg r z1 = x * y; rw [hz1, sg_abs, sg_abs]
  have D1 : Hid (DgS 21 w1 (.slice ia ik ic) z1) := hd1.wide (by omega)
  clear hd1 hz1
  go_wp2_with fail
  refine (cvalue _ _ _ _ (D1.out.wide (by omega))).mono ?_
  rintro e w2 ⟨rfl, hb2⟩
  rw [HZ.out]
  have hb12 : Below X.heap.size X w2 := hb1.trans (hb2.mono hb1.size)
  obtain ⟨hc2, hf2⟩ := bcell hb12
  have zq : w.heap.size + 1 + 1 < X.heap.size := by simpa using zR
  have q0 := keepCell hb12 zq d0
  have q1 := keepCell hb12 zq d1
  have q2 := keepCell hb12 zq d2
  have r0 : w2.frozen? ⟨w.heap.size + 1 + 1, 0, none⟩ = false := by rw [hf2 _ _ zq]; exact e0
  have r1 : w2.frozen? ⟨w.heap.size + 1 + 1, 1, none⟩ = false := by rw [hf2 _ _ zq]; exact e1
  have r2 : w2.frozen? ⟨w.heap.size + 1 + 1, 2, none⟩ = false := by rw [hf2 _ _ zq]; exact e2
  have HB2 : Hid (Below w.heap.size w w2) := keepBelow HB.out hb12
  clear hb1 hb2 hb12 hc2 hf2 c0 c1 c2 f0 f1 f2 d0 d1 d2 e0 e1 e2
  go_wp2
  refine bodyPost_ret (v := (.agg #[.int .i64 (rK (fits (x * y))), .int .i64 (rN (fits (x * y)) (x * y)), .string (⟨#[]⟩)])) (by simp [results, Try.results26, go_sem, *]) rfl ⟨rfl, ?_⟩
  exact (((HB2.out).setCell (by simp <;> omega) _).setCell (by simp <;> omega) _).setCell (by simp <;> omega) _

set_option maxRecDepth 20000 in
set_option maxHeartbeats 1000000 in
theorem rreck6 (x y : Int) (s s' : ByteArray) (w : World) (hx : fits x = true) (hy : fits y = true) :
    Calls Try.prog 26 #[.int .i64 6, (.agg #[.int .i64 (2), .int .i64 (x), .string (s)]), (.agg #[.int .i64 (2), .int .i64 (y), .string (s')])] w fun e w' => e = .returned (.agg #[.int .i64 (rK (fits (x - y))), .int .i64 (rN (fits (x - y)) (x - y)), .string (⟨#[]⟩)]) ∧ Below w.heap.size w w' := by
  have HX : Hid (fits x = true) := hx
  have HY : Hid (fits y = true) := hy
  clear hx hy
  go_enter Try.func26, Try.ntmps26
  go_upto_region 3 with fail
  have hw0 : Below w.heap.size w (((w.alloc (.cells #[.int .i64 2, .int .i64 x, .string s] 23)).alloc (.cells #[.int .i64 2, .int .i64 y, .string s'] 23)).alloc (.cells #[.int .i64 0, .int .i64 0, .string ⟨#[]⟩] 23)) := ((((Below.refl _ _).alloc (Nat.le_refl _) _).alloc (by simp) _).alloc (by simp; omega) _)
  refine regL w.heap.size x y HX.out HY.out (by simp) (by go_simp) (by go_simp) (by simp) rfl rfl rfl (by kernel_rfl) (by kernel_rfl) (by kernel_rfl) (by kernel_rfl) (by kernel_rfl) (by kernel_rfl) (by kernel_rfl) (by kernel_rfl) ?_
  intro u18 u19 u20 u21 u22 u23 b b' v v' X hB zb zb' hne hbx hdx hby hdy
  have HB : Hid (Below w.heap.size w X) := hw0.trans (hB.mono hw0.size)
  obtain ⟨hc, hfz⟩ := bcell hB
  have c0 : X.cell? ⟨w.heap.size + 1 + 1, 0, none⟩ = some (.int .i64 0) := by rw [hc _ _ (by simp)]; go_simp
  have c1 : X.cell? ⟨w.heap.size + 1 + 1, 1, none⟩ = some (.int .i64 0) := by rw [hc _ _ (by simp)]; go_simp
  have c2 : X.cell? ⟨w.heap.size + 1 + 1, 2, none⟩ = some (.string ⟨#[]⟩) := by rw [hc _ _ (by simp)]; go_simp
  have f0 : X.frozen? ⟨w.heap.size + 1 + 1, 0, none⟩ = false := by rw [hfz _ _ (by simp)]; go_simp
  have f1 : X.frozen? ⟨w.heap.size + 1 + 1, 1, none⟩ = false := by rw [hfz _ _ (by simp)]; go_simp
  have f2 : X.frozen? ⟨w.heap.size + 1 + 1, 2, none⟩ = false := by rw [hfz _ _ (by simp)]; go_simp
  have a1 : X.cell? ⟨w.heap.size, 1, none⟩ = some (.int .i64 x) := by rw [hc _ _ (by simp; omega)]; go_simp
  have a2 : X.cell? ⟨w.heap.size + 1, 1, none⟩ = some (.int .i64 y) := by rw [hc _ _ (by simp)]; go_simp
  have zR : w.heap.size + 1 + 1 < X.heap.size := keepSize hB (by simp)
  have x0 := hbx.cell0
  have x1 := hbx.cell1
  have y0 := hby.cell0
  have y1 := hby.cell1
  have y2 := hby.frozen 0
  obtain ⟨ga, gk, gc, gf, rfl, -⟩ := (show DgS _ _ _ _ from hdx)
  obtain ⟨ha, hk, hc', hf', rfl, -⟩ := (show DgS _ _ _ _ from hdy)
  have zb1 : w.heap.size + 1 + 1 ≠ b' := by simp at zb'; omega
  have DX : Hid (DgS 5 X (.slice ga gk gc) x.natAbs) := hdx
  have DY : Hid (DgS 5 X (.slice ha hk hc') y.natAbs) := hdy
  clear hdx hdy hc hfz hB hbx hby hw0
  simp only [sets, List.setIfInBounds_toArray, List.set_cons_zero, List.set_cons_succ]
  have d0 : (X.setCell ⟨b', 0, none⟩ (.bool (!(decide (y < 0))))).cell? ⟨w.heap.size + 1 + 1, 0, none⟩ = some (.int .i64 0) := (World.cell?_setCell_far _ _ _ _ (Ne.symm zb1)).trans c0
  have d1 : (X.setCell ⟨b', 0, none⟩ (.bool (!(decide (y < 0))))).cell? ⟨w.heap.size + 1 + 1, 1, none⟩ = some (.int .i64 0) := (World.cell?_setCell_far _ _ _ _ (Ne.symm zb1)).trans c1
  have d2 : (X.setCell ⟨b', 0, none⟩ (.bool (!(decide (y < 0))))).cell? ⟨w.heap.size + 1 + 1, 2, none⟩ = some (.string ⟨#[]⟩) := (World.cell?_setCell_far _ _ _ _ (Ne.symm zb1)).trans c2
  have e0 : (X.setCell ⟨b', 0, none⟩ (.bool (!(decide (y < 0))))).frozen? ⟨w.heap.size + 1 + 1, 0, none⟩ = false := by simpa using f0
  have e1 : (X.setCell ⟨b', 0, none⟩ (.bool (!(decide (y < 0))))).frozen? ⟨w.heap.size + 1 + 1, 1, none⟩ = false := by simpa using f1
  have e2 : (X.setCell ⟨b', 0, none⟩ (.bool (!(decide (y < 0))))).frozen? ⟨w.heap.size + 1 + 1, 2, none⟩ = false := by simpa using f2
  have x0' : (X.setCell ⟨b', 0, none⟩ (.bool (!(decide (y < 0))))).cell? ⟨b, 0, none⟩ = _ := (World.cell?_setCell_far _ _ _ _ (Ne.symm hne)).trans x0
  have x1' : (X.setCell ⟨b', 0, none⟩ (.bool (!(decide (y < 0))))).cell? ⟨b, 1, none⟩ = _ := (World.cell?_setCell_far _ _ _ _ (Ne.symm hne)).trans x1
  have DX1 : Hid (DgS 5 (X.setCell ⟨b', 0, none⟩ (.bool (!(decide (y < 0))))) (.slice ga gk gc) x.natAbs) := DX.out.set y0 (by simp) _
  have DY1 : Hid (DgS 5 (X.setCell ⟨b', 0, none⟩ (.bool (!(decide (y < 0))))) (.slice ha hk hc') y.natAbs) := DY.out.set y0 (by simp) _
  have HBs : Hid (Below w.heap.size w (X.setCell ⟨b', 0, none⟩ (.bool (!(decide (y < 0)))))) := HB.out.setCell (show w.heap.size ≤ b' by simp at zb'; omega) _
  go_wp2_with fail
  refine (cplus _ _ _ _ _ _ _ (DX1.out.wide (by omega)) (DY1.out.wide (by omega))).mono ?_
  rintro e w1 ⟨r, v1, z1, rfl, hd1, hz1, hb1⟩
  obtain ⟨ia, ik, ic, jf, rfl, -⟩ := (show DgS _ _ _ _ from hd1)
  have HZ : Hid (sg r z1 = x - y) := by show sg r z1 = x - y; rw [hz1, sg_abs, sg_not]; omega
  have D1 : Hid (DgS 21 w1 (.slice ia ik ic) z1) := hd1
  clear hd1 hz1
  go_wp2_with fail
  refine (cvalue _ _ _ _ (D1.out.wide (by omega))).mono ?_
  rintro e w2 ⟨rfl, hb2⟩
  rw [HZ.out]
  have hb12 : Below (X.setCell ⟨b', 0, none⟩ (.bool (!(decide (y < 0))))).heap.size (X.setCell ⟨b', 0, none⟩ (.bool (!(decide (y < 0))))) w2 := hb1.trans (hb2.mono hb1.size)
  obtain ⟨hc2, hf2⟩ := bcell hb12
  have zq : w.heap.size + 1 + 1 < (X.setCell ⟨b', 0, none⟩ (.bool (!(decide (y < 0))))).heap.size := by simpa using zR
  have q0 := keepCell hb12 zq d0
  have q1 := keepCell hb12 zq d1
  have q2 := keepCell hb12 zq d2
  have r0 : w2.frozen? ⟨w.heap.size + 1 + 1, 0, none⟩ = false := by rw [hf2 _ _ zq]; exact e0
  have r1 : w2.frozen? ⟨w.heap.size + 1 + 1, 1, none⟩ = false := by rw [hf2 _ _ zq]; exact e1
  have r2 : w2.frozen? ⟨w.heap.size + 1 + 1, 2, none⟩ = false := by rw [hf2 _ _ zq]; exact e2
  have HB2 : Hid (Below w.heap.size w w2) := keepBelow HBs.out hb12
  clear hb1 hb2 hb12 hc2 hf2 c0 c1 c2 f0 f1 f2 d0 d1 d2 e0 e1 e2
  go_wp2
  refine bodyPost_ret (v := (.agg #[.int .i64 (rK (fits (x - y))), .int .i64 (rN (fits (x - y)) (x - y)), .string (⟨#[]⟩)])) (by simp [results, Try.results26, go_sem, *]) rfl ⟨rfl, ?_⟩
  exact (((HB2.out).setCell (by simp <;> omega) _).setCell (by simp <;> omega) _).setCell (by simp <;> omega) _

set_option maxRecDepth 20000 in
set_option maxHeartbeats 1000000 in
theorem rreck8 (x y : Int) (s s' : ByteArray) (w : World) (hx : fits x = true) (hy : fits y = true) :
    Calls Try.prog 26 #[.int .i64 8, (.agg #[.int .i64 (2), .int .i64 (x), .string (s)]), (.agg #[.int .i64 (2), .int .i64 (y), .string (s')])] w fun e w' => e = .returned (.agg #[.int .i64 (rK (dok x y)), .int .i64 (rN (dok x y) (x.tdiv y)), .string (⟨#[]⟩)]) ∧ Below w.heap.size w w' := by
  have HX : Hid (fits x = true) := hx
  have HY : Hid (fits y = true) := hy
  clear hx hy
  go_enter Try.func26, Try.ntmps26
  go_upto_region 3 with fail
  have hw0 : Below w.heap.size w (((w.alloc (.cells #[.int .i64 2, .int .i64 x, .string s] 23)).alloc (.cells #[.int .i64 2, .int .i64 y, .string s'] 23)).alloc (.cells #[.int .i64 0, .int .i64 0, .string ⟨#[]⟩] 23)) := ((((Below.refl _ _).alloc (Nat.le_refl _) _).alloc (by simp) _).alloc (by simp; omega) _)
  refine regL w.heap.size x y HX.out HY.out (by simp) (by go_simp) (by go_simp) (by simp) rfl rfl rfl (by kernel_rfl) (by kernel_rfl) (by kernel_rfl) (by kernel_rfl) (by kernel_rfl) (by kernel_rfl) (by kernel_rfl) (by kernel_rfl) ?_
  intro u18 u19 u20 u21 u22 u23 b b' v v' X hB zb zb' hne hbx hdx hby hdy
  have HB : Hid (Below w.heap.size w X) := hw0.trans (hB.mono hw0.size)
  obtain ⟨hc, hfz⟩ := bcell hB
  have c0 : X.cell? ⟨w.heap.size + 1 + 1, 0, none⟩ = some (.int .i64 0) := by rw [hc _ _ (by simp)]; go_simp
  have c1 : X.cell? ⟨w.heap.size + 1 + 1, 1, none⟩ = some (.int .i64 0) := by rw [hc _ _ (by simp)]; go_simp
  have c2 : X.cell? ⟨w.heap.size + 1 + 1, 2, none⟩ = some (.string ⟨#[]⟩) := by rw [hc _ _ (by simp)]; go_simp
  have f0 : X.frozen? ⟨w.heap.size + 1 + 1, 0, none⟩ = false := by rw [hfz _ _ (by simp)]; go_simp
  have f1 : X.frozen? ⟨w.heap.size + 1 + 1, 1, none⟩ = false := by rw [hfz _ _ (by simp)]; go_simp
  have f2 : X.frozen? ⟨w.heap.size + 1 + 1, 2, none⟩ = false := by rw [hfz _ _ (by simp)]; go_simp
  have a1 : X.cell? ⟨w.heap.size, 1, none⟩ = some (.int .i64 x) := by rw [hc _ _ (by simp; omega)]; go_simp
  have a2 : X.cell? ⟨w.heap.size + 1, 1, none⟩ = some (.int .i64 y) := by rw [hc _ _ (by simp)]; go_simp
  have zR : w.heap.size + 1 + 1 < X.heap.size := keepSize hB (by simp)
  have x0 := hbx.cell0
  have x1 := hbx.cell1
  have y0 := hby.cell0
  have y1 := hby.cell1
  have y2 := hby.frozen 0
  obtain ⟨ga, gk, gc, gf, rfl, -⟩ := (show DgS _ _ _ _ from hdx)
  obtain ⟨ha, hk, hc', hf', rfl, -⟩ := (show DgS _ _ _ _ from hdy)
  have zb1 : w.heap.size + 1 + 1 ≠ b' := by simp at zb'; omega
  have DX : Hid (DgS 5 X (.slice ga gk gc) x.natAbs) := hdx
  have DY : Hid (DgS 5 X (.slice ha hk hc') y.natAbs) := hdy
  clear hdx hdy hc hfz hB hbx hby hw0
  simp only [sets, List.setIfInBounds_toArray, List.set_cons_zero, List.set_cons_succ]
  go_wp2_with fail
  refine (rdiv8 _ _ _ HX.out HY.out).mono ?_
  rintro e w2 ⟨rfl, hb2⟩
  obtain ⟨hc2, hf2⟩ := bcell hb2
  have q0 := keepCell hb2 zR c0
  have q1 := keepCell hb2 zR c1
  have q2 := keepCell hb2 zR c2
  have r0 : w2.frozen? ⟨w.heap.size + 1 + 1, 0, none⟩ = false := by rw [hf2 _ _ zR]; exact f0
  have r1 : w2.frozen? ⟨w.heap.size + 1 + 1, 1, none⟩ = false := by rw [hf2 _ _ zR]; exact f1
  have r2 : w2.frozen? ⟨w.heap.size + 1 + 1, 2, none⟩ = false := by rw [hf2 _ _ zR]; exact f2
  have HB2 : Hid (Below w.heap.size w w2) := keepBelow HB.out hb2
  clear hb2 hc2 hf2 c0 c1 c2 f0 f1 f2
  go_wp2
  refine bodyPost_ret (v := (.agg #[.int .i64 (rK (dok x y)), .int .i64 (rN (dok x y) (x.tdiv y)), .string (⟨#[]⟩)])) (by simp [results, Try.results26, go_sem, *]) rfl ⟨rfl, ?_⟩
  exact (((HB2.out).setCell (by simp <;> omega) _).setCell (by simp <;> omega) _).setCell (by simp <;> omega) _

set_option maxRecDepth 20000 in
set_option maxHeartbeats 1000000 in
theorem rreck9 (x y : Int) (s s' : ByteArray) (w : World) (hx : fits x = true) (hy : fits y = true) :
    Calls Try.prog 26 #[.int .i64 9, (.agg #[.int .i64 (2), .int .i64 (x), .string (s)]), (.agg #[.int .i64 (2), .int .i64 (y), .string (s')])] w fun e w' => e = .returned (.agg #[.int .i64 (rK (dok x y)), .int .i64 (rN (dok x y) (x.tmod y)), .string (⟨#[]⟩)]) ∧ Below w.heap.size w w' := by
  have HX : Hid (fits x = true) := hx
  have HY : Hid (fits y = true) := hy
  clear hx hy
  go_enter Try.func26, Try.ntmps26
  go_upto_region 3 with fail
  have hw0 : Below w.heap.size w (((w.alloc (.cells #[.int .i64 2, .int .i64 x, .string s] 23)).alloc (.cells #[.int .i64 2, .int .i64 y, .string s'] 23)).alloc (.cells #[.int .i64 0, .int .i64 0, .string ⟨#[]⟩] 23)) := ((((Below.refl _ _).alloc (Nat.le_refl _) _).alloc (by simp) _).alloc (by simp; omega) _)
  refine regL w.heap.size x y HX.out HY.out (by simp) (by go_simp) (by go_simp) (by simp) rfl rfl rfl (by kernel_rfl) (by kernel_rfl) (by kernel_rfl) (by kernel_rfl) (by kernel_rfl) (by kernel_rfl) (by kernel_rfl) (by kernel_rfl) ?_
  intro u18 u19 u20 u21 u22 u23 b b' v v' X hB zb zb' hne hbx hdx hby hdy
  have HB : Hid (Below w.heap.size w X) := hw0.trans (hB.mono hw0.size)
  obtain ⟨hc, hfz⟩ := bcell hB
  have c0 : X.cell? ⟨w.heap.size + 1 + 1, 0, none⟩ = some (.int .i64 0) := by rw [hc _ _ (by simp)]; go_simp
  have c1 : X.cell? ⟨w.heap.size + 1 + 1, 1, none⟩ = some (.int .i64 0) := by rw [hc _ _ (by simp)]; go_simp
  have c2 : X.cell? ⟨w.heap.size + 1 + 1, 2, none⟩ = some (.string ⟨#[]⟩) := by rw [hc _ _ (by simp)]; go_simp
  have f0 : X.frozen? ⟨w.heap.size + 1 + 1, 0, none⟩ = false := by rw [hfz _ _ (by simp)]; go_simp
  have f1 : X.frozen? ⟨w.heap.size + 1 + 1, 1, none⟩ = false := by rw [hfz _ _ (by simp)]; go_simp
  have f2 : X.frozen? ⟨w.heap.size + 1 + 1, 2, none⟩ = false := by rw [hfz _ _ (by simp)]; go_simp
  have a1 : X.cell? ⟨w.heap.size, 1, none⟩ = some (.int .i64 x) := by rw [hc _ _ (by simp; omega)]; go_simp
  have a2 : X.cell? ⟨w.heap.size + 1, 1, none⟩ = some (.int .i64 y) := by rw [hc _ _ (by simp)]; go_simp
  have zR : w.heap.size + 1 + 1 < X.heap.size := keepSize hB (by simp)
  have x0 := hbx.cell0
  have x1 := hbx.cell1
  have y0 := hby.cell0
  have y1 := hby.cell1
  have y2 := hby.frozen 0
  obtain ⟨ga, gk, gc, gf, rfl, -⟩ := (show DgS _ _ _ _ from hdx)
  obtain ⟨ha, hk, hc', hf', rfl, -⟩ := (show DgS _ _ _ _ from hdy)
  have zb1 : w.heap.size + 1 + 1 ≠ b' := by simp at zb'; omega
  have DX : Hid (DgS 5 X (.slice ga gk gc) x.natAbs) := hdx
  have DY : Hid (DgS 5 X (.slice ha hk hc') y.natAbs) := hdy
  clear hdx hdy hc hfz hB hbx hby hw0
  simp only [sets, List.setIfInBounds_toArray, List.set_cons_zero, List.set_cons_succ]
  go_wp2_with fail
  refine (rdiv9 _ _ _ HX.out HY.out).mono ?_
  rintro e w2 ⟨rfl, hb2⟩
  obtain ⟨hc2, hf2⟩ := bcell hb2
  have q0 := keepCell hb2 zR c0
  have q1 := keepCell hb2 zR c1
  have q2 := keepCell hb2 zR c2
  have r0 : w2.frozen? ⟨w.heap.size + 1 + 1, 0, none⟩ = false := by rw [hf2 _ _ zR]; exact f0
  have r1 : w2.frozen? ⟨w.heap.size + 1 + 1, 1, none⟩ = false := by rw [hf2 _ _ zR]; exact f1
  have r2 : w2.frozen? ⟨w.heap.size + 1 + 1, 2, none⟩ = false := by rw [hf2 _ _ zR]; exact f2
  have HB2 : Hid (Below w.heap.size w w2) := keepBelow HB.out hb2
  clear hb2 hc2 hf2 c0 c1 c2 f0 f1 f2
  go_wp2
  refine bodyPost_ret (v := (.agg #[.int .i64 (rK (dok x y)), .int .i64 (rN (dok x y) (x.tmod y)), .string (⟨#[]⟩)])) (by simp [results, Try.results26, go_sem, *]) rfl ⟨rfl, ?_⟩
  exact (((HB2.out).setCell (by simp <;> omega) _).setCell (by simp <;> omega) _).setCell (by simp <;> omega) _

set_option maxRecDepth 20000 in
set_option maxHeartbeats 1000000 in
theorem rreck_op (op x y : Int) (s s' : ByteArray) (w : World) (hx : fits x = true) (hy : fits y = true) (h5 : (op == 5) = false) (h6 : (op == 6) = false) (h7 : (op == 7) = false) (h8 : (op == 8) = false) (h9 : (op == 9) = false) :
    Calls Try.prog 26 #[.int .i64 op, (.agg #[.int .i64 (2), .int .i64 (x), .string (s)]), (.agg #[.int .i64 (2), .int .i64 (y), .string (s')])] w fun e w' => e = .returned (.agg #[.int .i64 (0), .int .i64 (0), .string (⟨#[]⟩)]) ∧ Below w.heap.size w w' := by
  have HX : Hid (fits x = true) := hx
  have HY : Hid (fits y = true) := hy
  clear hx hy
  go_enter Try.func26, Try.ntmps26
  go_upto_region 3 with fail
  have hw0 : Below w.heap.size w (((w.alloc (.cells #[.int .i64 2, .int .i64 x, .string s] 23)).alloc (.cells #[.int .i64 2, .int .i64 y, .string s'] 23)).alloc (.cells #[.int .i64 0, .int .i64 0, .string ⟨#[]⟩] 23)) := ((((Below.refl _ _).alloc (Nat.le_refl _) _).alloc (by simp) _).alloc (by simp; omega) _)
  refine regL w.heap.size x y HX.out HY.out (by simp) (by go_simp) (by go_simp) (by simp) rfl rfl rfl (by kernel_rfl) (by kernel_rfl) (by kernel_rfl) (by kernel_rfl) (by kernel_rfl) (by kernel_rfl) (by kernel_rfl) (by kernel_rfl) ?_
  intro u18 u19 u20 u21 u22 u23 b b' v v' X hB zb zb' hne hbx hdx hby hdy
  have HB : Hid (Below w.heap.size w X) := hw0.trans (hB.mono hw0.size)
  obtain ⟨hc, hfz⟩ := bcell hB
  have c0 : X.cell? ⟨w.heap.size + 1 + 1, 0, none⟩ = some (.int .i64 0) := by rw [hc _ _ (by simp)]; go_simp
  have c1 : X.cell? ⟨w.heap.size + 1 + 1, 1, none⟩ = some (.int .i64 0) := by rw [hc _ _ (by simp)]; go_simp
  have c2 : X.cell? ⟨w.heap.size + 1 + 1, 2, none⟩ = some (.string ⟨#[]⟩) := by rw [hc _ _ (by simp)]; go_simp
  have f0 : X.frozen? ⟨w.heap.size + 1 + 1, 0, none⟩ = false := by rw [hfz _ _ (by simp)]; go_simp
  have f1 : X.frozen? ⟨w.heap.size + 1 + 1, 1, none⟩ = false := by rw [hfz _ _ (by simp)]; go_simp
  have f2 : X.frozen? ⟨w.heap.size + 1 + 1, 2, none⟩ = false := by rw [hfz _ _ (by simp)]; go_simp
  have a1 : X.cell? ⟨w.heap.size, 1, none⟩ = some (.int .i64 x) := by rw [hc _ _ (by simp; omega)]; go_simp
  have a2 : X.cell? ⟨w.heap.size + 1, 1, none⟩ = some (.int .i64 y) := by rw [hc _ _ (by simp)]; go_simp
  have zR : w.heap.size + 1 + 1 < X.heap.size := keepSize hB (by simp)
  have x0 := hbx.cell0
  have x1 := hbx.cell1
  have y0 := hby.cell0
  have y1 := hby.cell1
  have y2 := hby.frozen 0
  obtain ⟨ga, gk, gc, gf, rfl, -⟩ := (show DgS _ _ _ _ from hdx)
  obtain ⟨ha, hk, hc', hf', rfl, -⟩ := (show DgS _ _ _ _ from hdy)
  have zb1 : w.heap.size + 1 + 1 ≠ b' := by simp at zb'; omega
  have DX : Hid (DgS 5 X (.slice ga gk gc) x.natAbs) := hdx
  have DY : Hid (DgS 5 X (.slice ha hk hc') y.natAbs) := hdy
  clear hdx hdy hc hfz hB hbx hby hw0
  simp only [sets, List.setIfInBounds_toArray, List.set_cons_zero, List.set_cons_succ]
  go_wp2_with fail
  refine (rnull _).mono ?_
  rintro e w2 ⟨rfl, hb2⟩
  obtain ⟨hc2, hf2⟩ := bcell hb2
  have q0 := keepCell hb2 zR c0
  have q1 := keepCell hb2 zR c1
  have q2 := keepCell hb2 zR c2
  have r0 : w2.frozen? ⟨w.heap.size + 1 + 1, 0, none⟩ = false := by rw [hf2 _ _ zR]; exact f0
  have r1 : w2.frozen? ⟨w.heap.size + 1 + 1, 1, none⟩ = false := by rw [hf2 _ _ zR]; exact f1
  have r2 : w2.frozen? ⟨w.heap.size + 1 + 1, 2, none⟩ = false := by rw [hf2 _ _ zR]; exact f2
  have HB2 : Hid (Below w.heap.size w w2) := keepBelow HB.out hb2
  clear hb2 hc2 hf2 c0 c1 c2 f0 f1 f2
  go_wp2
  refine bodyPost_ret (v := (.agg #[.int .i64 (0), .int .i64 (0), .string (⟨#[]⟩)])) (by simp [results, Try.results26, go_sem, *]) rfl ⟨rfl, ?_⟩
  exact (((HB2.out).setCell (by simp <;> omega) _).setCell (by simp <;> omega) _).setCell (by simp <;> omega) _

set_option maxHeartbeats 1000000 in
theorem rreck_k1 (op k k' x y : Int) (s s' : ByteArray) (w : World) (h : (k != 2) = true) :
    Calls Try.prog 26 #[.int .i64 op, (.agg #[.int .i64 (k), .int .i64 (x), .string (s)]), (.agg #[.int .i64 (k'), .int .i64 (y), .string (s')])] w fun e w' => e = .returned (.agg #[.int .i64 (0), .int .i64 (0), .string (⟨#[]⟩)]) ∧ Below w.heap.size w w' := by
  go_enter Try.func26, Try.ntmps26
  go_wp2_with fail
  refine (rnull _).mono ?_
  rintro e w1 ⟨rfl, hb1⟩
  obtain ⟨hc1, hf1⟩ := bcell hb1; have za1 : w.heap.size < w1.heap.size := (by have := hb1.size; (try simp at this); omega); have zb1 : w.heap.size + 1 < w1.heap.size := (by have := hb1.size; (try simp at this); omega); have zc1 : w.heap.size + 1 + 1 < w1.heap.size := (by have := hb1.size; (try simp at this); omega)
  go_wp2
  refine bodyPost_ret (v := (.agg #[.int .i64 (0), .int .i64 (0), .string (⟨#[]⟩)])) (by simp [results, Try.results26, go_sem, *]) rfl ⟨rfl, ?_⟩
  exact ((((keepBelow ((((Below.refl _ _).alloc (Nat.le_refl _) _).alloc (by simp) _).alloc (by simp; omega) _) hb1)).setCell (by simp <;> omega) _).setCell (by simp <;> omega) _).setCell (by simp <;> omega) _

set_option maxHeartbeats 1000000 in
theorem rreck_k2 (op k' x y : Int) (s s' : ByteArray) (w : World) (h : (k' != 2) = true) :
    Calls Try.prog 26 #[.int .i64 op, (.agg #[.int .i64 (2), .int .i64 (x), .string (s)]), (.agg #[.int .i64 (k'), .int .i64 (y), .string (s')])] w fun e w' => e = .returned (.agg #[.int .i64 (0), .int .i64 (0), .string (⟨#[]⟩)]) ∧ Below w.heap.size w w' := by
  go_enter Try.func26, Try.ntmps26
  go_wp2_with fail
  refine (rnull _).mono ?_
  rintro e w1 ⟨rfl, hb1⟩
  obtain ⟨hc1, hf1⟩ := bcell hb1; have za1 : w.heap.size < w1.heap.size := (by have := hb1.size; (try simp at this); omega); have zb1 : w.heap.size + 1 < w1.heap.size := (by have := hb1.size; (try simp at this); omega); have zc1 : w.heap.size + 1 + 1 < w1.heap.size := (by have := hb1.size; (try simp at this); omega)
  go_wp2
  refine bodyPost_ret (v := (.agg #[.int .i64 (0), .int .i64 (0), .string (⟨#[]⟩)])) (by simp [results, Try.results26, go_sem, *]) rfl ⟨rfl, ?_⟩
  exact ((((keepBelow ((((Below.refl _ _).alloc (Nat.le_refl _) _).alloc (by simp) _).alloc (by simp; omega) _) hb1)).setCell (by simp <;> omega) _).setCell (by simp <;> omega) _).setCell (by simp <;> omega) _

theorem rreckon (op k k' x y : Int) (s s' : ByteArray) (w : World) (hx : fits x = true) (hy : fits y = true) : Calls Try.prog 26 #[.int .i64 op, (.agg #[.int .i64 (k), .int .i64 (x), .string (s)]), (.agg #[.int .i64 (k'), .int .i64 (y), .string (s')])] w fun e w' => e = .returned (.agg #[.int .i64 (rK (rkk op k x k' y)), .int .i64 (rN (rkk op k x k' y) (rval op x y)), .string (⟨#[]⟩)]) ∧ Below w.heap.size w w' := by
  by_cases h1 : k = 2
  · subst h1
    by_cases h2 : k' = 2
    · subst h2
      have e : rkk op 2 x 2 y = rok op x y := by simp [rkk]
      rw [e]
      clear e
      by_cases h5 : op = 5
      · subst h5
        exact rreck5 x y s s' w hx hy
      by_cases h6 : op = 6
      · subst h6
        exact rreck6 x y s s' w hx hy
      by_cases h7 : op = 7
      · subst h7
        exact rreck7 x y s s' w hx hy
      by_cases h8 : op = 8
      · subst h8
        exact rreck8 x y s s' w hx hy
      by_cases h9 : op = 9
      · subst h9
        exact rreck9 x y s s' w hx hy
      have e : rok op x y = false := by simp [rok, h5, h6, h7, h8, h9]
      rw [e]
      exact rreck_op op x y s s' w hx hy (by simpa using h5) (by simpa using h6) (by simpa using h7) (by simpa using h8) (by simpa using h9)
    · have e : rkk op 2 x k' y = false := by simp [rkk, h2]
      rw [e]
      exact rreck_k2 op k' x y s s' w (by simpa using h2)
  · have e : rkk op k x k' y = false := by simp [rkk, h1]
    rw [e]
    exact rreck_k1 op k k' x y s s' w (by simpa using h1)
end Go.Proofs.Ytohdfohnajifaaa
