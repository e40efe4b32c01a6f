/- package disk: turn -/
import Derived.Test.YtfjkockcgddgbaaDsk3
namespace Go.Proofs.Ytfjkockcgddgbaa
open Go.RowKit Go.Lib
attribute [local go_sem ↓] Go.wp_at_zero Go.wp_at_succ
theorem chgs_len (l : List Chg) : (chgsCells l).length = l.length * 4 := by
  induction l with
  | nil => rfl
  | cons x l ih => show (chgCells x ++ chgsCells l).length = _; rw [List.length_append, ih]; simp [chgCells]; omega
theorem chgs_snoc (l : List Chg) (x : Chg) : chgsCells (l ++ [x]) = chgsCells l ++ chgCells x := by simp [chgsCells]
theorem PD.wait {X Y : World} {B D : Nat} {vb : Nat → Value} {vw : Value} {lb : Nat → List UInt8} {ws : List Chg} {left count : Int} {down : Bool} (h : PD X B D vb vw lb ws left count down) {v' : Value} {x : Chg}
    (hb : But X Y vw.ownBlock) (hr : Y.ownsRow B 92 4 v' (ws.length + 1) (chgsCells ws ++ chgCells x)) (hx : okC x) :
    PD (Y.setCell ⟨D, 4, none⟩ v') B D vb v' lb (ws ++ [x]) left count down := by
  have hYD : Y.heap[D]? = some (.cells #[vb 0, vb 1, vb 2, vb 3, vw, .int .i64 left, .int .i64 count, .bool down] 62 (0, 0)) :=
    (hb.block D h.lt (neD' (row_neD h.blk (by decide) h.wrow))).trans h.blk
  have hset := set_grown Y D 4 v'
  refine ⟨?_, h.low, ?_, ?_, h.dif, h.size, ?_⟩
  · rw [set_blk hYD]; rfl
  · intro i hi
    have hri := World.ownsRow.kept (h.rows i hi) hb (by
      rcases h.wrow.2 with ⟨e, _⟩ | ⟨g, cap, cur, e, _, hgg, _⟩
      · rw [e]
        cases hv : (vb i).ownBlock with
        | none => exact .inl rfl
        | some b => exact .inr (fun h => by cases h)
      · rw [e]
        exact row_neD hgg (by decide) (h.rows i hi))
    exact World.ownsRow.kept hri hset (row_neD hYD (by decide) hri)
  · rw [chgs_snoc, List.length_append]
    exact World.ownsRow.kept hr hset (row_neD hYD (by decide) hr)
  · intro y hy
    rcases List.mem_append.1 hy with hy | hy
    · exact h.oks y hy
    · rw [List.mem_singleton.1 hy]; exact hx
theorem infoC : (Try.prog.info? 92).map (fun i => (i.zero, i.size, i.bytes)) = some (some (.agg #[.int .i64 0, .int .i64 0, .string ⟨#[]⟩, .bool false]), 4, 40) := by kernel_rfl
theorem owns_sliceC {W : World} {base n : Nat} {v : Value} {xs : List Value} (h : W.ownsRow base 92 4 v n xs) : ∃ a cap, v = .slice a n cap := by
  rcases h.2 with ⟨rfl, h2⟩ | ⟨g, cap, cur, rfl, _⟩
  · exact ⟨none, 0, by rw [h2]⟩
  · exact ⟨_, cap, rfl⟩
theorem newsC (w : World) (f p : Int) (t : ByteArray) (c : Bool) : ∀ j u, [Value.int .i64 f, .int .i64 p, .string t, .bool c][j]? = some u → (w.alloc (.cells #[.int .i64 f, .int .i64 p, .string t, .bool c] 92)).cell? ((⟨w.heap.size, 0, none⟩ : Addr).add j) = some u := by
  intro j u hj
  rw [add_none]
  match j, hj with
  | 0, h => cases h; go_simp
  | 1, h => cases h; go_simp
  | 2, h => cases h; go_simp
  | 3, h => cases h; go_simp
  | j + 4, h => simp at h
theorem set_far {W : World} {D k b o : Nat} {v u : Value} (h : W.cell? ⟨b, o, none⟩ = some u) (hne : ¬ b = D) : (W.setCell ⟨D, k, none⟩ v).cell? ⟨b, o, none⟩ = some u :=
  (World.cell?_of_block (w := W) (w' := W.setCell ⟨D, k, none⟩ v) (a := ⟨b, o, none⟩) (Below.heap_setCell _ _ _ b hne)).trans h
theorem wait_pack {X w1 : World} {ob : Obj} {B D : Nat} {vb : Nat → Value} {vw : Value} {lb : Nat → List UInt8} {ws : List Chg} {left count : Int} {down : Bool} {v' : Value} {x : Chg} (h : PD X B D vb vw lb ws left count down)
    (hr : w1.ownsRow B 92 4 v' (ws.length + 1) (chgsCells ws ++ chgCells x)) (hb : But (X.alloc ob) w1 vw.ownBlock) (hx : okC x) (hB : B ≤ X.heap.size) :
    PD (w1.setCell ⟨D, 4, none⟩ v') B D vb v' lb (ws ++ [x]) left count down ∧ w1.cell? ⟨D, 4, none⟩ = some vw ∧ w1.frozen? ⟨D, 4, none⟩ = false ∧ BelT tyP B X w1 := by
  have hA := h.below (((Below.refl _ _).alloc (Nat.le_refl _) _) : Below X.heap.size X (X.alloc ob))
  have hne := neD' (row_neD hA.blk (by decide) hA.wrow)
  refine ⟨PD.wait hA hb hr hx, hb.cell (hA.cells.2.2.2.2.1) hne, (World.frozen?_of_block (hb.block D hA.lt hne)).trans (hA.unfrozen 4), ?_⟩
  exact ((BelT.refl _ _ _).alloc hB ob).trans (BelT.row hb (by simp; omega) (row_nf (by decide) hA.wrow))
set_option maxRecDepth 20000 in
set_option maxHeartbeats 2000000 in
theorem cturn0 (p : Nat) (t : ByteArray) (c : Bool) (hp : p + t.size ≤ 67108864) (hc : c = true → t.size = 0) (X : World) (B D : Nat) (vb : Nat → Value) (vw : Value) (lb : Nat → List UInt8) (ws : List Chg) (left count : Int) (down : Bool) (h : PD X B D vb vw lb ws left count down) (hB : B ≤ X.heap.size) (hw : ws.length ≤ 1000000) :
    Calls Try.prog 55 #[(.pointer (some ⟨D, 0, none⟩)), (.agg #[.int .i64 0, .int .i64 (p : Int), .string t, .bool c])] X fun e w' => e = .returned (.tuple #[]) ∧ (∃ v' vw', PD w' B D (updF vb 0 v') vw' (updF lb 0 (onL p t c (lb 0))) (ws ++ [⟨0, p, t, c⟩]) left count down) ∧ BelT tyP B X w' := by
  obtain ⟨c0, c1, c2, c3, c4, c5, c6, c7⟩ := h.cells
  obtain ⟨i0, hi, hz0, hz1, hz2⟩ := info_parts infoC
  have hD := h.lt
  have H : Hid (PD X B D vb vw lb ws left count down) := h
  have HC : Hid (c = true → t.size = 0) := hc
  clear h hc
  go_enter Try.func55, Try.ntmps55
  go_wp2_with fail
  go_quiet (fail)
  go_upto_region 2 with fail
  have H1 : Hid (PD (X.alloc (.cells #[.int .i64 0, .int .i64 p, .string t, .bool c] 92)) B D vb vw lb ws left count down) := H.out.below ((Below.refl _ _).alloc (Nat.le_refl _) _)
  have hLn : (onL p t c (lb 0)).length ≤ 67108864 := by
    rw [onL_len]
    have := H.out.size 0 (by decide)
    split <;> omega
  have hbx : some X.heap.size ≠ (vb 0).ownBlock := row_new (H.out.rows 0 (by decide)) (Nat.le_refl _)
  go_region_with (go_at_call 74; refine (cdone 0 p t c B (vb 0) (lb 0) _ ?h1 ?h2 hp ?h4 HC.out).mono ?_; (case h1 => exact H1.out.rows 0 (by decide)); (case h2 => simp; omega); (case h4 => exact H.out.size 0 (by decide)); rintro e w' ⟨v', rfl, hr, hb, hn⟩; obtain ⟨a', cap', rfl, _⟩ := owns_sliceB hr; have HH := last_pack H1.out (show 0 < 4 by decide) hr hb hn hLn hB; have HP : Hid (PD (w'.setCell ⟨D, 0, none⟩ (.slice a' (onL p t c (lb 0)).length cap')) B D (updF vb 0 (.slice a' (onL p t c (lb 0)).length cap')) vw (updF lb 0 (onL p t c (lb 0))) ws left count down) := HH.1; have e1 : w'.cell? ⟨D, 0, none⟩ = some (vb 0) := HH.2.1; have fz := HH.2.2.1; have HBW : Hid (BelT tyP B X w') := HH.2.2.2; have b0 : w'.cell? ⟨X.heap.size, 0, none⟩ = some (.int .i64 0) := hb.cell (by go_simp) hbx; have b1 : w'.cell? ⟨X.heap.size, 1, none⟩ = some (.int .i64 p) := hb.cell (by go_simp) hbx; have b2 : w'.cell? ⟨X.heap.size, 2, none⟩ = some (.string t) := hb.cell (by go_simp) hbx; have b3 : w'.cell? ⟨X.heap.size, 3, none⟩ = some (.bool c) := hb.cell (by go_simp) hbx; clear HH hr hb hn)
  all_goals
    have hbD : ¬ X.heap.size = D := by omega
    have g0 := set_far (D := D) (k := 0) (v := .slice a' (onL p t c (lb 0)).length cap') b0 hbD
    have g1 := set_far (D := D) (k := 0) (v := .slice a' (onL p t c (lb 0)).length cap') b1 hbD
    have g2 := set_far (D := D) (k := 0) (v := .slice a' (onL p t c (lb 0)).length cap') b2 hbD
    have g3 := set_far (D := D) (k := 0) (v := .slice a' (onL p t c (lb 0)).length cap') b3 hbD
    have p4 := HP.out.cells.2.2.2.2.1
    have f4 := HP.out.unfrozen 4
    have HBW2 : Hid (BelT tyP B X (w'.setCell ⟨D, 0, none⟩ (.slice a' (onL p t c (lb 0)).length cap'))) := HBW.out.setCell H.out.low (fun _ => H.out.nf) _
    have hDW := HP.out.lt
    clear b0 b1 b2 b3 e1 fz HBW
    generalize w'.setCell ⟨D, 0, none⟩ (.slice a' (onL p t c (lb 0)).length cap') = W at *
    have hBW : B ≤ W.heap.size := Nat.le_trans hB HBW2.out.size
    have HOK : Hid (okC ⟨0, p, t, c⟩) := (⟨(by omega : 0 < 2), hp, HC.out⟩ : okC ⟨0, p, t, c⟩)
    go_wp2_with fail
    go_region_law (refine step_append_ownN rfl (.tmp 24) (.tmp 26) 60 rfl B 92 i0 (.agg #[.int .i64 0, .int .i64 0, .string ⟨#[]⟩, .bool false]) 4 40 Try.underlying60 hi hz0 hz1 hz2 rfl (by decide) vw ws.length (chgsCells ws) ?s1 ?s2 ⟨W.heap.size, 0, none⟩ 1 1 [.int .i64 0, .int .i64 p, .string t, .bool c] ?s3 rfl ?s4 ?s5 ?s6 ?s7 ?s8 ?_; (case s1 => go_simp); (case s2 => exact World.ownsRow.alloc HP.out.wrow _); (case s3 => go_simp); (case s4 => exact newsC _ _ _ _ _); (case s5 => intro u hu; simp at hu; rcases hu with rfl | rfl | rfl | rfl <;> rfl); (case s6 => unfold maxLen; omega); (case s7 => omega); (case s8 => simp; omega); intro v1 w1 ho1 hg1; obtain ⟨a1, cap1, rfl⟩ := owns_sliceC ho1; have HH := wait_pack (x := ⟨0, p, t, c⟩) HP.out ho1 (grown_drew hg1) HOK.out hBW; have HQ : Hid (PD (w1.setCell ⟨D, 4, none⟩ (.slice a1 (ws.length + 1) cap1)) B D (updF vb 0 (.slice a' (onL p t c (lb 0)).length cap')) (.slice a1 (ws.length + 1) cap1) (updF lb 0 (onL p t c (lb 0))) (ws ++ [⟨0, p, t, c⟩]) left count down) := HH.1; have e4 := HH.2.1; have fz4 := HH.2.2.1; have HBX : Hid (BelT tyP B X w1) := HBW2.out.trans HH.2.2.2; clear HH ho1 hg1)
    all_goals
      go_wp2
      go_end0
      exact ⟨rfl, ⟨_, _, HQ.out⟩, HBX.out.setCell H.out.low (fun _ => H.out.nf) _⟩
set_option maxRecDepth 20000 in
set_option maxHeartbeats 2000000 in
theorem cturn1 (p : Nat) (t : ByteArray) (c : Bool) (hp : p + t.size ≤ 67108864) (hc : c = true → t.size = 0) (X : World) (B D : Nat) (vb : Nat → Value) (vw : Value) (lb : Nat → List UInt8) (ws : List Chg) (left count : Int) (down : Bool) (h : PD X B D vb vw lb ws left count down) (hB : B ≤ X.heap.size) (hw : ws.length ≤ 1000000) :
    Calls Try.prog 55 #[(.pointer (some ⟨D, 0, none⟩)), (.agg #[.int .i64 1, .int .i64 (p : Int), .string t, .bool c])] X fun e w' => e = .returned (.tuple #[]) ∧ (∃ v' vw', PD w' B D (updF vb 2 v') vw' (updF lb 2 (onL p t c (lb 2))) (ws ++ [⟨1, p, t, c⟩]) left count down) ∧ BelT tyP B X w' := by
  obtain ⟨c0, c1, c2, c3, c4, c5, c6, c7⟩ := h.cells
  obtain ⟨i0, hi, hz0, hz1, hz2⟩ := info_parts infoC
  have hD := h.lt
  have H : Hid (PD X B D vb vw lb ws left count down) := h
  have HC : Hid (c = true → t.size = 0) := hc
  clear h hc
  go_enter Try.func55, Try.ntmps55
  go_wp2_with fail
  go_quiet (fail)
  go_upto_region 2 with fail
  have H1 : Hid (PD (X.alloc (.cells #[.int .i64 1, .int .i64 p, .string t, .bool c] 92)) B D vb vw lb ws left count down) := H.out.below ((Below.refl _ _).alloc (Nat.le_refl _) _)
  have hLn : (onL p t c (lb 2)).length ≤ 67108864 := by
    rw [onL_len]
    have := H.out.size 2 (by decide)
    split <;> omega
  have hbx : some X.heap.size ≠ (vb 2).ownBlock := row_new (H.out.rows 2 (by decide)) (Nat.le_refl _)
  go_region_with (go_at_call 74; refine (cdone 1 p t c B (vb 2) (lb 2) _ ?h1 ?h2 hp ?h4 HC.out).mono ?_; (case h1 => exact H1.out.rows 2 (by decide)); (case h2 => simp; omega); (case h4 => exact H.out.size 2 (by decide)); rintro e w' ⟨v', rfl, hr, hb, hn⟩; obtain ⟨a', cap', rfl, _⟩ := owns_sliceB hr; have HH := last_pack H1.out (show 2 < 4 by decide) hr hb hn hLn hB; have HP : Hid (PD (w'.setCell ⟨D, 2, none⟩ (.slice a' (onL p t c (lb 2)).length cap')) B D (updF vb 2 (.slice a' (onL p t c (lb 2)).length cap')) vw (updF lb 2 (onL p t c (lb 2))) ws left count down) := HH.1; have e1 : w'.cell? ⟨D, 2, none⟩ = some (vb 2) := HH.2.1; have fz := HH.2.2.1; have HBW : Hid (BelT tyP B X w') := HH.2.2.2; have b0 : w'.cell? ⟨X.heap.size, 0, none⟩ = some (.int .i64 1) := hb.cell (by go_simp) hbx; have b1 : w'.cell? ⟨X.heap.size, 1, none⟩ = some (.int .i64 p) := hb.cell (by go_simp) hbx; have b2 : w'.cell? ⟨X.heap.size, 2, none⟩ = some (.string t) := hb.cell (by go_simp) hbx; have b3 : w'.cell? ⟨X.heap.size, 3, none⟩ = some (.bool c) := hb.cell (by go_simp) hbx; clear HH hr hb hn)
  all_goals
    have hbD : ¬ X.heap.size = D := by omega
    have g0 := set_far (D := D) (k := 2) (v := .slice a' (onL p t c (lb 2)).length cap') b0 hbD
    have g1 := set_far (D := D) (k := 2) (v := .slice a' (onL p t c (lb 2)).length cap') b1 hbD
    have g2 := set_far (D := D) (k := 2) (v := .slice a' (onL p t c (lb 2)).length cap') b2 hbD
    have g3 := set_far (D := D) (k := 2) (v := .slice a' (onL p t c (lb 2)).length cap') b3 hbD
    have p4 := HP.out.cells.2.2.2.2.1
    have f4 := HP.out.unfrozen 4
    have HBW2 : Hid (BelT tyP B X (w'.setCell ⟨D, 2, none⟩ (.slice a' (onL p t c (lb 2)).length cap'))) := HBW.out.setCell H.out.low (fun _ => H.out.nf) _
    have hDW := HP.out.lt
    clear b0 b1 b2 b3 e1 fz HBW
    generalize w'.setCell ⟨D, 2, none⟩ (.slice a' (onL p t c (lb 2)).length cap') = W at *
    have hBW : B ≤ W.heap.size := Nat.le_trans hB HBW2.out.size
    have HOK : Hid (okC ⟨1, p, t, c⟩) := (⟨(by omega : 1 < 2), hp, HC.out⟩ : okC ⟨1, p, t, c⟩)
    go_wp2_with fail
    go_region_law (refine step_append_ownN rfl (.tmp 24) (.tmp 26) 60 rfl B 92 i0 (.agg #[.int .i64 0, .int .i64 0, .string ⟨#[]⟩, .bool false]) 4 40 Try.underlying60 hi hz0 hz1 hz2 rfl (by decide) vw ws.length (chgsCells ws) ?s1 ?s2 ⟨W.heap.size, 0, none⟩ 1 1 [.int .i64 1, .int .i64 p, .string t, .bool c] ?s3 rfl ?s4 ?s5 ?s6 ?s7 ?s8 ?_; (case s1 => go_simp); (case s2 => exact World.ownsRow.alloc HP.out.wrow _); (case s3 => go_simp); (case s4 => exact newsC _ _ _ _ _); (case s5 => intro u hu; simp at hu; rcases hu with rfl | rfl | rfl | rfl <;> rfl); (case s6 => unfold maxLen; omega); (case s7 => omega); (case s8 => simp; omega); intro v1 w1 ho1 hg1; obtain ⟨a1, cap1, rfl⟩ := owns_sliceC ho1; have HH := wait_pack (x := ⟨1, p, t, c⟩) HP.out ho1 (grown_drew hg1) HOK.out hBW; have HQ : Hid (PD (w1.setCell ⟨D, 4, none⟩ (.slice a1 (ws.length + 1) cap1)) B D (updF vb 2 (.slice a' (onL p t c (lb 2)).length cap')) (.slice a1 (ws.length + 1) cap1) (updF lb 2 (onL p t c (lb 2))) (ws ++ [⟨1, p, t, c⟩]) left count down) := HH.1; have e4 := HH.2.1; have fz4 := HH.2.2.1; have HBX : Hid (BelT tyP B X w1) := HBW2.out.trans HH.2.2.2; clear HH ho1 hg1)
    all_goals
      go_wp2
      go_end0
      exact ⟨rfl, ⟨_, _, HQ.out⟩, HBX.out.setCell H.out.low (fun _ => H.out.nf) _⟩
end Go.Proofs.Ytfjkockcgddgbaa
