/- relstoreref's disk: act, Write, Cut -/
import Derived.Test.YtfjkockcgddgbaaDskU
namespace Go.Proofs.Ytfjkockcgddgbaa
open Go.RowKit Go.Lib
attribute [local go_sem ↓] Go.wp_at_zero Go.wp_at_succ
theorem infoA : (Try.prog.info? 102).map (fun i => (i.zero, i.size, i.bytes)) = some (some (.agg #[.int .i64 0, .int .i64 0, .string ⟨#[]⟩, .bool false]), 4, 40) := by kernel_rfl
theorem RD.wait {X Y : World} {B D : Nat} {l0 l1 : ByteArray} {vw : Value} {ws : List Chg} {left count : Int} {down : Bool} (h : RD X B D l0 l1 vw ws left count down) {v' : Value} {x : Chg}
    (hb : But X Y vw.ownBlock) (hr : Y.ownsRow B 102 4 v' (ws.length + 1) (chgsCells ws ++ chgCells x)) (hx : okC x) :
    RD (Y.setCell ⟨D, 2, none⟩ v') B D l0 l1 v' (ws ++ [x]) left count down := by
  have hYD : Y.heap[D]? = some (.cells #[.string l0, .string l1, vw, .int .i64 left, .bool down, .int .i64 count] 66 (0, 0)) :=
    (hb.block D h.lt (neD' (row_neD h.blk (by decide) h.wrow))).trans h.blk
  have hset := set_grown Y D 2 v'
  refine ⟨?_, h.low, ?_, h.s0, h.s1, ?_⟩
  · rw [set_blk hYD]; rfl
  · rw [chgs_snoc, List.length_append]
    exact World.ownsRow.kept hr hset (row_neD hYD (by decide) hr)
  · intro y hy
    rcases List.mem_append.1 hy with hy | hy
    · exact h.oks y hy
    · rw [List.mem_singleton.1 hy]; exact hx
theorem newsA (w : World) (f p : Int) (t : ByteArray) (c : Bool) : ∀ j u, [Value.int .i64 f, .int .i64 p, .string t, .bool c][j]? = some u → (w.alloc (.cells #[.int .i64 f, .int .i64 p, .string t, .bool c] 102)).cell? ((⟨w.heap.size, 0, none⟩ : Addr).add j) = some u := by
  intro j u hj
  rw [add_none]
  match j, hj with
  | 0, h => cases h; go_simp
  | 1, h => cases h; go_simp
  | 2, h => cases h; go_simp
  | 3, h => cases h; go_simp
  | j + 4, h => simp at h
theorem rwait_pack {X w1 : World} {ob : Obj} {B D : Nat} {l0 l1 : ByteArray} {vw : Value} {ws : List Chg} {left count : Int} {down : Bool} {v' : Value} {x : Chg} (h : RD X B D l0 l1 vw ws left count down)
    (hr : w1.ownsRow B 102 4 v' (ws.length + 1) (chgsCells ws ++ chgCells x)) (hb : But (X.alloc ob) w1 vw.ownBlock) (hx : okC x) (hB : B ≤ X.heap.size) :
    RD (w1.setCell ⟨D, 2, none⟩ v') B D l0 l1 v' (ws ++ [x]) left count down ∧ w1.cell? ⟨D, 2, none⟩ = some vw ∧ w1.frozen? ⟨D, 2, none⟩ = false ∧ BelT tyR B X w1 := by
  have hA := h.below (((Below.refl _ _).alloc (Nat.le_refl _) _) : Below X.heap.size X (X.alloc ob))
  have hne := neD' (row_neD hA.blk (by decide) hA.wrow)
  refine ⟨RD.wait hA hb hr hx, hb.cell (hA.cells.2.2.1) hne, (World.frozen?_of_block (hb.block D hA.lt hne)).trans (hA.unfrozen 2), ?_⟩
  exact ((BelT.refl _ _ _).alloc hB ob).trans (BelT.row hb (by simp; omega) (row_nf (by decide) hA.wrow))
theorem rbut_below {X Y : World} {B D : Nat} (h : But X Y (some D)) (hB : B ≤ X.heap.size) (hD : B ≤ D) (hf : ¬ farT tyR X D) : BelT tyR B X Y :=
  BelT.row h hB (fun b e => by injection e with e; subst e; exact ⟨hD, hf⟩)
/- what act answers, and makes of the disk -/
def actPost (f p : Nat) (t : ByteArray) (c : Bool) (X : World) (B D : Nat) (l0 l1 : ByteArray) (vw : Value) (ws : List Chg) (left count : Int) (down : Bool) (e : Ending) (w' : World) : Prop :=
  ((down = true ∨ left = 0) ∧ e = .returned (.int .i64 2) ∧ RD w' B D l0 l1 vw ws left count true ∧ BelT tyR B X w') ∨
  (down = false ∧ ¬ left = 0 ∧ e = .returned (.int .i64 0) ∧ (∃ vw', RD w' B D l0 l1 vw' (ws ++ [⟨f, p, t, c⟩]) (decL left) (count + 1) false) ∧ BelT tyR B X w')
set_option maxRecDepth 20000 in
set_option maxHeartbeats 1000000 in
theorem ract (f p : Nat) (t : ByteArray) (c : Bool) (hx : okC ⟨f, p, t, c⟩) (X : World) (B D : Nat) (l0 l1 : ByteArray) (vw : Value) (ws : List Chg) (left count : Int) (down : Bool) (h : RD X B D l0 l1 vw ws left count down) (hB : B ≤ X.heap.size) (hl : -9223372036854775808 ≤ left ∧ left ≤ 9223372036854775807) (hc : 0 ≤ count ∧ count ≤ 4611686018427387904) (hw : ws.length ≤ 1000000) :
    Calls Try.prog 56 #[(.pointer (some ⟨D, 0, none⟩)), .agg #[.int .i64 (f : Int), .int .i64 (p : Int), .string t, .bool c]] X (actPost f p t c X B D l0 l1 vw ws left count down) := by
  have H : Hid (RD X B D l0 l1 vw ws left count down) := h
  have HX : Hid (okC ⟨f, p, t, c⟩) := hx
  obtain ⟨i0, hi, hz0, hz1, hz2⟩ := info_parts infoA
  have hlow := h.low
  have hDX := h.lt
  have H1 : Hid (RD (X.alloc (.cells #[.int .i64 f, .int .i64 p, .string t, .bool c] 102)) B D l0 l1 vw ws left count down) := h.below ((Below.refl _ _).alloc (Nat.le_refl _) _)
  clear h hx
  go_enter Try.func56, Try.ntmps56
  go_wp2_with fail
  refine (rturn _ B D l0 l1 vw ws left count down H1.out hl hc).mono ?_
  rintro e w1 h
  rcases h with ⟨h0, rfl, hP, hb⟩ | ⟨hd, h0, rfl, hP, hb⟩
  · have HB1 : Hid (BelT tyR B X w1) := ((BelT.refl _ _ _).alloc hB _).trans (rbut_below hb (by simp; omega) hlow H1.out.nf)
    have HP : Hid _ := hP
    have H0 : Hid _ := h0
    clear h0 hP hb
    go_wp2_with fail
    go_ret
    exact .inl ⟨H0.out, rfl, HP.out, HB1.out⟩
  · have hne : some X.heap.size ≠ some D := fun e => by injection e with e; omega
    have b0 : w1.cell? ⟨X.heap.size, 0, none⟩ = some (.int .i64 f) := hb.cell (by go_simp) hne
    have b1 : w1.cell? ⟨X.heap.size, 1, none⟩ = some (.int .i64 p) := hb.cell (by go_simp) hne
    have b2 : w1.cell? ⟨X.heap.size, 2, none⟩ = some (.string t) := hb.cell (by go_simp) hne
    have b3 : w1.cell? ⟨X.heap.size, 3, none⟩ = some (.bool c) := hb.cell (by go_simp) hne
    have HB1 : Hid (BelT tyR B X w1) := ((BelT.refl _ _ _).alloc hB _).trans (rbut_below hb (by simp; omega) hlow H1.out.nf)
    have HP : Hid _ := hP
    obtain ⟨c0, c1, c2, -⟩ := hP.cells
    have f2 := hP.unfrozen 2
    obtain ⟨aw, cw, rfl⟩ := owns_sliceA hP.wrow
    clear hP hb hne
    have hBW : B ≤ w1.heap.size := Nat.le_trans hB HB1.out.size
    have hDW := HP.out.lt
    have hXW := HB1.out.size
    have hXW2 : X.heap.size < w1.heap.size := by
      rcases Nat.lt_or_ge X.heap.size w1.heap.size with h' | h'
      · exact h'
      · simp [World.cell?, Array.getElem?_eq_none h'] at b0
    go_wp2_with fail
    go_region_law (refine step_append_ownN rfl (.tmp 14) (.tmp 16) 64 rfl B 102 i0 (.agg #[.int .i64 0, .int .i64 0, .string ⟨#[]⟩, .bool false]) 4 40 Try.underlying64 hi hz0 hz1 hz2 rfl (by decide) (.slice aw ws.length cw) ws.length (chgsCells ws) ?s1 ?s2 ⟨w1.heap.size, 0, none⟩ 1 1 [.int .i64 f, .int .i64 p, .string t, .bool c] ?s3 rfl ?s4 ?s5 ?s6 ?s7 ?s8 ?_; (case s1 => go_simp); (case s2 => exact World.ownsRow.alloc HP.out.wrow _); (case s3 => go_simp); (case s4 => exact newsA _ _ _ _ _); (case s5 => intro u hu; simp at hu; rcases hu with rfl | rfl | rfl | rfl <;> rfl); (case s6 => unfold maxLen; omega); (case s7 => omega); (case s8 => simp; omega); intro v1 w2 ho1 hg1; obtain ⟨a1, cap1, rfl⟩ := owns_sliceA ho1; have HH := rwait_pack (x := ⟨f, p, t, c⟩) HP.out ho1 (grown_drew hg1) HX.out hBW; have HQ : Hid (RD (w2.setCell ⟨D, 2, none⟩ (.slice a1 (ws.length + 1) cap1)) B D l0 l1 (.slice a1 (ws.length + 1) cap1) (ws ++ [⟨f, p, t, c⟩]) (decL left) (count + 1) false) := HH.1; have e4 := HH.2.1; have fz4 := HH.2.2.1; have HBX : Hid (BelT tyR B X w2) := HB1.out.trans HH.2.2.2; clear HH ho1 hg1)
    all_goals
      go_wp2
      go_ret
      exact .inr ⟨hd, h0, rfl, ⟨_, HQ.out⟩, HBX.out.setCell hlow (fun _ => H.out.nf) _⟩
/- what Write and Cut answer, and make of the disk -/
def ropPost (f at' : Int) (t : ByteArray) (c : Bool) (X : World) (B D : Nat) (l0 l1 : ByteArray) (vw : Value) (ws : List Chg) (left count : Int) (down : Bool) (e : Ending) (w' : World) : Prop :=
  (fitsD f at' t.size = false ∧ e = .returned (.int .i64 1) ∧ w' = X) ∨
  (fitsD f at' t.size = true ∧ (down = true ∨ left = 0) ∧ e = .returned (.int .i64 2) ∧ RD w' B D l0 l1 vw ws left count true ∧ BelT tyR B X w') ∨
  (fitsD f at' t.size = true ∧ down = false ∧ ¬ left = 0 ∧ e = .returned (.int .i64 0) ∧ (∃ (f' p : Nat) (vw' : Value), f = f' ∧ at' = p ∧ f' < 2 ∧ RD w' B D l0 l1 vw' (ws ++ [⟨f', p, t, c⟩]) (decL left) (count + 1) false) ∧ BelT tyR B X w')
theorem fits_nat {f at' n : Int} (h : fitsD f at' n = true) : ∃ f' p : Nat, f = f' ∧ at' = p ∧ f' < 2 ∧ (p : Int) + n ≤ 67108864 ∧ 0 ≤ n := by
  unfold fitsD at h
  have hf := of_decide_eq_true h
  exact ⟨f.toNat, at'.toNat, by omega, by omega, by omega, by omega, by omega⟩
set_option maxRecDepth 20000 in
set_option maxHeartbeats 1000000 in
theorem rwrite (f at' : Int) (t : ByteArray) (X : World) (B D : Nat) (l0 l1 : ByteArray) (vw : Value) (ws : List Chg) (left count : Int) (down : Bool) (h : RD X B D l0 l1 vw ws left count down) (hB : B ≤ X.heap.size) (hl : -9223372036854775808 ≤ left ∧ left ≤ 9223372036854775807) (hc : 0 ≤ count ∧ count ≤ 4611686018427387904) (hw : ws.length ≤ 1000000) :
    Calls Try.prog 28 #[(.pointer (some ⟨D, 0, none⟩)), .int .i64 f, .int .i64 at', .string t] X (ropPost f at' t false X B D l0 l1 vw ws left count down) := by
  have H : Hid (RD X B D l0 l1 vw ws left count down) := h
  clear h
  go_enter Try.func28, Try.ntmps28
  go_wp2_with fail
  refine (rfits f at' t.size X).mono ?_
  rintro e w ⟨rfl, rfl⟩
  by_cases hf : fitsD f at' t.size = true
  · have HF : Hid _ := hf
    obtain ⟨f', p, rfl, rfl, hf2, hp, -⟩ := fits_nat hf
    have hp' : p + t.size ≤ 67108864 := by omega
    rw [hf]
    clear hf
    go_wp2_with fail
    refine (ract f' p t false ⟨hf2, hp', fun h => by cases h⟩ w B D l0 l1 vw ws left count down H.out hB hl hc hw).mono ?_
    rintro e w2 h
    rcases h with ⟨h0, rfl, hP, hb⟩ | ⟨hd, h0, rfl, ⟨vw', hP⟩, hb⟩
    · have H0 : Hid _ := h0
      have HP : Hid _ := hP
      have HB : Hid _ := hb
      clear h0 hP hb
      go_wp2_with fail
      go_ret
      exact .inr (.inl ⟨HF.out, H0.out, rfl, HP.out, HB.out⟩)
    · have HD : Hid _ := hd
      have H0 : Hid _ := h0
      have HP : Hid _ := hP
      have HB : Hid _ := hb
      clear hd h0 hP hb
      go_wp2_with fail
      go_ret
      exact .inr (.inr ⟨HF.out, HD.out, H0.out, rfl, ⟨f', p, vw', rfl, rfl, hf2, HP.out⟩, HB.out⟩)
  · have hf' : fitsD f at' t.size = false := by simpa using hf
    rw [hf']
    have HF : Hid _ := hf'
    clear hf hf'
    go_wp2_with fail
    go_ret
    exact .inl ⟨HF.out, rfl, rfl⟩
set_option maxRecDepth 20000 in
set_option maxHeartbeats 1000000 in
theorem rcut (f at' : Int) (X : World) (B D : Nat) (l0 l1 : ByteArray) (vw : Value) (ws : List Chg) (left count : Int) (down : Bool) (h : RD X B D l0 l1 vw ws left count down) (hB : B ≤ X.heap.size) (hl : -9223372036854775808 ≤ left ∧ left ≤ 9223372036854775807) (hc : 0 ≤ count ∧ count ≤ 4611686018427387904) (hw : ws.length ≤ 1000000) :
    Calls Try.prog 30 #[(.pointer (some ⟨D, 0, none⟩)), .int .i64 f, .int .i64 at'] X (ropPost f at' ⟨#[]⟩ true X B D l0 l1 vw ws left count down) := by
  have H : Hid (RD X B D l0 l1 vw ws left count down) := h
  clear h
  have ez : ((⟨#[]⟩ : ByteArray).size : Int) = 0 := rfl
  unfold ropPost
  rw [ez]
  clear ez
  go_enter Try.func30, Try.ntmps30
  go_wp2_with fail
  refine (rfits f at' 0 X).mono ?_
  rintro e w ⟨rfl, rfl⟩
  by_cases hf : fitsD f at' 0 = true
  · have HF : Hid _ := hf
    obtain ⟨f', p, rfl, rfl, hf2, hp, -⟩ := fits_nat hf
    have hp' : p + (⟨#[]⟩ : ByteArray).size ≤ 67108864 := by show p + 0 ≤ _; omega
    rw [hf]
    clear hf
    go_wp2_with fail
    refine (ract f' p ⟨#[]⟩ true ⟨hf2, hp', fun _ => rfl⟩ w B D l0 l1 vw ws left count down H.out hB hl hc hw).mono ?_
    rintro e w2 h
    rcases h with ⟨h0, rfl, hP, hb⟩ | ⟨hd, h0, rfl, ⟨vw', hP⟩, hb⟩
    · have H0 : Hid _ := h0
      have HP : Hid _ := hP
      have HB : Hid _ := hb
      clear h0 hP hb
      go_wp2_with fail
      go_ret
      exact .inr (.inl ⟨HF.out, H0.out, rfl, HP.out, HB.out⟩)
    · have HD : Hid _ := hd
      have H0 : Hid _ := h0
      have HP : Hid _ := hP
      have HB : Hid _ := hb
      clear hd h0 hP hb
      go_wp2_with fail
      go_ret
      exact .inr (.inr ⟨HF.out, HD.out, H0.out, rfl, ⟨f', p, vw', rfl, rfl, hf2, HP.out⟩, HB.out⟩)
  · have hf' : fitsD f at' 0 = false := by simpa using hf
    rw [hf']
    have HF : Hid _ := hf'
    clear hf hf'
    go_wp2_with fail
    go_ret
    exact .inl ⟨HF.out, rfl, rfl⟩
end Go.Proofs.Ytfjkockcgddgbaa
