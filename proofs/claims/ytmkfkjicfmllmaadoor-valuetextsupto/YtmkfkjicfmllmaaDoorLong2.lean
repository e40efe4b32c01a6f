/- The contract of relstoreref.joint: the digits of a number and so many times another one. -/
import Derived.Test.YtmkfkjicfmllmaaDoorLong1
import Derived.Deep.AppendLies
namespace Go.Proofs.YtmkfkjicfmllmaaDoor
open Go.RowKit
attribute [local go_sem ↓] Go.wp_at_zero Go.wp_at_succ

def gt (ds : List Int) (i : Nat) : Int := ds.getD i 0
theorem gt_app (ds : List Int) (x : Int) {i : Nat} (h : i < ds.length) : gt (ds ++ [x]) i = gt ds i := by
  unfold gt; simp [List.getD, List.getElem?_append_left h]
theorem gt_last (ds : List Int) (x : Int) : gt (ds ++ [x]) ds.length = x := by
  unfold gt; simp [List.getD]
theorem val_app (ds : List Int) (x : Int) : val (gt (ds ++ [x])) (ds.length + 1) = val (gt ds) ds.length + x * pw ds.length := by
  rw [val_s, gt_last, val_congr (fun i hi => gt_app ds x hi)]
theorem valid_app {ds : List Int} {x : Int} (h : valid (gt ds) ds.length) (hx : 0 ≤ x ∧ x < 10000) : valid (gt (ds ++ [x])) (ds.length + 1) := by
  intro i hi
  rcases Nat.lt_or_ge i ds.length with h' | h'
  · rw [gt_app ds x h']; exact h i h'
  · have : i = ds.length := by omega
    subst this; rw [gt_last]; exact hx
def vals (ds : List Int) : List Value := ds.map (.int .i64 ·)

/- what the loop keeps: so many digits are written, c is carried -/
structure Jo (f : Nat → Int) (n : Nat) (g : Nat → Int) (m : Nat) (T : Int) (i : Nat) (c : Int) (ds : List Int) : Prop where
  len : ds.length = i
  ok : valid (gt ds) i
  sum : val (gt ds) i + c * pw i = val (dg f n) i + T * val (dg g m) i
  lo : -1 ≤ c
  hi : c ≤ 9999
  neg : T = -1 → c ≤ 0
  pos : 0 ≤ T → 0 ≤ c

theorem mul_bd {T d : Int} (hT : -1 ≤ T) (hT' : T ≤ 9999) (hd : 0 ≤ d) (hd' : d < 10000) : -9999 ≤ T * d ∧ T * d ≤ 99980001 ∧ (0 ≤ T → 0 ≤ T * d) ∧ (T = -1 → T * d = -d) := by
  refine ⟨?_, ?_, fun h => Int.mul_nonneg h hd, fun h => by rw [h]; omega⟩
  · have := Int.mul_le_mul_of_nonneg_right hT hd; omega
  · have h1 : T * d ≤ 9999 * d := Int.mul_le_mul_of_nonneg_right hT' hd
    omega

theorem Jo.step {f : Nat → Int} {n : Nat} {g : Nat → Int} {m : Nat} {T : Int} {i : Nat} {c : Int} {ds : List Int} (h : Jo f n g m T i c ds) (hf : valid f n) (hg : valid g m) (hT : -1 ≤ T) (hT' : T ≤ 9999) (q x : Int)
    (hx : x = dg f n i + T * dg g m i + c + 10000 * q) (hx0 : 0 ≤ x) (hq : q = 0 ∨ (q = 1 ∧ dg f n i + T * dg g m i + c < 0)) : Jo f n g m T (i + 1) (-q + x / 10000) (ds ++ [x % 10000]) := by
  have a := dg_valid hf i
  have b := dg_valid hg i
  obtain ⟨b1, b2, b3, b4⟩ := mul_bd hT hT' b.1 b.2
  have e := Int.emod_add_mul_ediv x 10000
  have hl := h.len
  have hm := Int.emod_nonneg x (show (10000 : Int) ≠ 0 by decide)
  have hm' := Int.emod_lt_of_pos x (show (0 : Int) < 10000 by decide)
  subst hl
  have hlo := h.lo
  have hhi := h.hi
  refine ⟨by simp, valid_app h.ok ⟨hm, hm'⟩, ?_, ?_, ?_, ?_, ?_⟩
  · rw [val_app, val_s, val_s, pw_s]
    have hs := h.sum
    have e2 : (-q + x / 10000) * (10000 * pw ds.length) + x % 10000 * pw ds.length = (x - 10000 * q) * pw ds.length := by
      rw [← Int.mul_assoc, ← Int.add_mul]
      congr 1
      omega
    have e3 : (x - 10000 * q) = dg f n ds.length + T * dg g m ds.length + c := by omega
    have e5 : (dg f n ds.length + T * dg g m ds.length + c) * pw ds.length = dg f n ds.length * pw ds.length + T * dg g m ds.length * pw ds.length + c * pw ds.length := by rw [Int.add_mul, Int.add_mul]
    rw [e3, e5] at e2
    have e4 : T * (val (dg g m) ds.length + dg g m ds.length * pw ds.length) = T * val (dg g m) ds.length + T * dg g m ds.length * pw ds.length := by
      rw [Int.mul_add, Int.mul_assoc]
    rw [e4]
    omega
  · omega
  · rcases hq with rfl | ⟨rfl, h1⟩ <;> omega
  · intro hn
    have := h.neg hn
    have := b4 hn
    rcases hq with rfl | ⟨rfl, h1⟩ <;> omega
  · intro hp
    have := h.pos hp
    have := b3 hp
    rcases hq with rfl | ⟨rfl, h1⟩ <;> omega
theorem Jo.start (f : Nat → Int) (n : Nat) (g : Nat → Int) (m : Nat) (T : Int) : Jo f n g m T 0 0 [] := ⟨rfl, fun i h => absurd h (by omega), by simp [val], by omega, by omega, fun _ => by omega, fun _ => by omega⟩
theorem Jo.done {f : Nat → Int} {n : Nat} {g : Nat → Int} {m : Nat} {T : Int} {M : Nat} {c : Int} {ds : List Int} (h : Jo f n g m T (M + 1) c ds) (hf : valid f n) (hg : valid g m) (hn : n ≤ M) (hm : m ≤ M) (hT : T = -1 ∧ val g m ≤ val f n ∨ 0 ≤ T ∧ T ≤ 9999) : val (gt ds) (M + 1) = val f n + T * val g m := by
  have s := h.sum
  rw [val_dg f n (by omega), val_dg g m (by omega)] at s
  have bd := val_bound h.ok
  have bf := val_bound hf
  have bg := val_bound hg
  have p1 := pw_mono hn
  have p2 := pw_mono hm
  have pp := pw_pos M
  rw [pw_s] at bd s
  have tot : 0 ≤ val f n + T * val g m ∧ val f n + T * val g m < 10000 * pw M := by
    rcases hT with ⟨rfl, hle⟩ | ⟨h0, h1⟩
    · constructor <;> omega
    · have k1 : 0 ≤ T * val g m := Int.mul_nonneg h0 bg.1
      have k2 : T * val g m ≤ 9999 * val g m := Int.mul_le_mul_of_nonneg_right h1 bg.1
      constructor <;> omega
  have hc : c = 0 := by
    rcases Int.lt_trichotomy c 0 with hl | he | hg0
    · exfalso
      have : c * (10000 * pw M) ≤ -1 * (10000 * pw M) := Int.mul_le_mul_of_nonneg_right (by omega) (by omega)
      omega
    · exact he
    · exfalso
      have : 1 * (10000 * pw M) ≤ c * (10000 * pw M) := Int.mul_le_mul_of_nonneg_right (by omega) (by omega)
      omega
  rw [hc] at s
  omega

theorem infoI : (Tryd.prog.info? 3).map (fun i => (i.zero, i.size, i.bytes)) = some (some (.int .i64 0), 1, 8) := by kernel_rfl
theorem own_len {w : World} {base : Nat} {v : Value} {i : Nat} {ds : List Int} (h : w.ownsRow base 3 1 v i (vals ds)) : ds.length = i := by
  have := h.1
  simpa [vals] using this
theorem dg_own {w : World} {base : Nat} {v : Value} {i : Nat} {ds : List Int} (h : w.ownsRow base 3 1 v i (vals ds)) (hi : 0 < i) : ∃ g cap, v = .slice (some ⟨g, 0, none⟩) i cap ∧ i ≤ cap ∧ DgA w (some ⟨g, 0, none⟩) i (gt ds) := by
  have hlen := own_len h
  rcases h.2 with ⟨_, h0⟩ | ⟨g, cap, cur, rfl, hb, hg, hc, _, _⟩
  · omega
  · refine ⟨g, cap, rfl, hc, Or.inr ⟨g, 0, rfl, ?_, fun j hj => ?_⟩⟩
    · rcases Nat.lt_or_ge g w.heap.size with hlt | hge
      · exact hlt
      · rw [Array.getElem?_eq_none hge] at hg; cases hg
    · rw [Nat.zero_add, h.cellAt j (by omega)]
      have hj' : j < ds.length := by omega
      simp [vals, gt, List.getD, List.getElem?_eq_getElem hj']
theorem vals_app (ds : List Int) (x : Int) : vals ds ++ [.int .i64 x] = vals (ds ++ [x]) := by simp [vals]


set_option maxRecDepth 20000 in
set_option maxHeartbeats 1000000 in
theorem cjoint_n (a : Option Addr) (n cap : Nat) (a' : Option Addr) (m cap' : Nat) (T : Int) (f g : Nat → Int) (w : World) (hA : DgA w a n f) (hB : DgA w a' m g) (hn : n ≤ 1000000) (_hm : m ≤ 1000000) (hf : valid f n) (hg : valid g m) (hT : T = -1 ∧ val g m ≤ val f n ∨ 0 ≤ T ∧ T ≤ 9999) (hnm : m ≤ n) :
    Calls Tryd.prog 37 #[.slice a n cap, .slice a' m cap', .int .i64 T] w fun e w' => ∃ a'' k cap'' h, e = .returned (.slice a'' k cap'') ∧ k ≤ n + 1 ∧ k ≤ cap'' ∧ DgA w' a'' k h ∧ valid h k ∧ norm h k ∧ val h k = val f n + T * val g m ∧ Below w.heap.size w w' := by
  obtain ⟨i0, hi, hz0, hz1, hz2⟩ := info_parts infoI
  have HA : Hid (DgA w a n f) := hA
  have HB : Hid (DgA w a' m g) := hB
  have HF : Hid (valid f n) := hf
  have HG : Hid (valid g m) := hg
  have HT : Hid (T = -1 ∧ val g m ≤ val f n ∨ 0 ≤ T ∧ T ≤ 9999) := hT
  have t1 : -1 ≤ T := by omega
  have t2 : T ≤ 9999 := by omega
  clear hA hB hf hg hT
  go_enter Tryd.func37, Tryd.ntmps37
  go_wp2
  go_loopw [7, 8, 9] (fun v x y X => ∃ (i : Nat) (c : Int) (ds : List Int), y = .int .i64 i ∧ x = .int .i64 c ∧ i ≤ n + 1 ∧ Hid (Jo f n g m T i c ds) ∧ X.ownsRow w.heap.size 3 1 v i (vals ds) ∧ Below w.heap.size w X) (fun _ _ y _ => n + 1 - (intOf y).toNat)
  case atStart => exact ⟨0, 0, [], rfl, rfl, Nat.zero_le _, Jo.start f n g m T, World.ownsRow_nil _ _ _ _, Below.refl _ _⟩
  case round =>
    obtain ⟨i, c, ds, rfl, rfl, hle, HJ, hown, hb0⟩ := hrel
    by_cases hlt : i ≤ n
    · have c1 : -1 ≤ c := HJ.out.lo
      have c2 : c ≤ 9999 := HJ.out.hi
      obtain ⟨d1, d2⟩ := dg_valid HF.out i
      obtain ⟨d3, d4⟩ := dg_valid HG.out i
      obtain ⟨d5, d6, -, -⟩ := mul_bd t1 t2 d3 d4
      have HX1 : Hid _ := HA.out.below hb0
      have HX2 : Hid _ := HB.out.below hb0
      have Hb : Hid _ := hb0
      have Ho : Hid _ := hown
      clear hb0 hown
      go_wp2_with (first | (go_at_call_of 49 (Value.slice a n cap); refine (cdigit _ _ _ _ f _ ?_ ?_).mono ?_; (exact HX1.out); (omega); rintro e w' ⟨rfl, rfl⟩) | (go_at_call_of 49 (Value.slice a' m cap'); refine (cdigit _ _ _ _ g _ ?_ ?_).mono ?_; (exact HX2.out); (omega); rintro e w' ⟨rfl, rfl⟩))
      by_cases hs : dg f n i + T * dg g m i + c < 0
      · have HJ1 : Hid (Jo f n g m T (i + 1) (-1 + (dg f n i + T * dg g m i + c + 10000) / 10000) (ds ++ [(dg f n i + T * dg g m i + c) % 10000])) := by
          have := HJ.out.step HF.out HG.out t1 t2 1 (dg f n i + T * dg g m i + c + 10000) (by omega) (by omega) (Or.inr ⟨rfl, hs⟩)
          have e : (dg f n i + T * dg g m i + c + 10000) % 10000 = (dg f n i + T * dg g m i + c) % 10000 := by omega
          rw [e] at this
          exact this
        refine wp_loop_rounds 2 ?_
        rw [rounds_succ]
        go_wp2
        rw [rounds_succ]
        go_wp2_with (at_builtin; go_must (refine wpList_append_lies _ rfl _ _ _ rfl w.heap.size 3 i0 (.int .i64 0) 1 8 Tryd.underlying43 hi hz0 hz1 hz2 rfl (by decide) _ i (vals ds) rfl (World.ownsRow.alloc Ho.out _) _ 1 1 [.int .i64 ((dg f n i + T * dg g m i + c) % 10000)] rfl rfl ?q1 ?q2 (by decide) ?q3 ?q4 ?q5 _ rfl ?_))
        (try (case q1 => exact cell_one_new _ _ _))
        case q2 => first | (intro u hu; simp at hu; rw [hu]; rfl) | rfl | simp
        case q3 => unfold maxLen; omega
        case q4 => omega
        case q5 => have := Below.size Hb.out; simp; omega
        intro g1 cap1 w1 hown1 hgrow hat hlt1
        rw [vals_app] at hown1
        have HB1 : Hid (Below w.heap.size w w1) := (Below.alloc Hb.out (Below.size Hb.out) _).grown hgrow (by have := Below.size Hb.out; simp; omega) (fun k hk => ((World.ownsRow.lt Ho.out) k hk).1)
        have HO1 : Hid (w1.ownsRow w.heap.size 3 1 (.slice (some ⟨g1, 0, none⟩) (i + 1) cap1) (i + 1) (vals (ds ++ [(dg f n i + T * dg g m i + c) % 10000]))) := hown1
        clear hown1 hgrow hat hlt1
        go_wp2
        go_roundw
        case rel => exact ⟨i + 1, _, _, by go_num, rfl, by omega, HJ1, HO1, HB1⟩
        case measure => simp [intOf]; omega
      · have HJ1 : Hid (Jo f n g m T (i + 1) ((dg f n i + T * dg g m i + c) / 10000) (ds ++ [(dg f n i + T * dg g m i + c) % 10000])) := by
          have := HJ.out.step HF.out HG.out t1 t2 0 (dg f n i + T * dg g m i + c) (by omega) (by omega) (Or.inl rfl)
          have e : -0 + (dg f n i + T * dg g m i + c) / 10000 = (dg f n i + T * dg g m i + c) / 10000 := by omega
          rw [e] at this
          exact this
        refine wp_loop_rounds 1 ?_
        rw [rounds_succ]
        go_wp2_with (at_builtin; go_must (refine wpList_append_lies _ rfl _ _ _ rfl w.heap.size 3 i0 (.int .i64 0) 1 8 Tryd.underlying43 hi hz0 hz1 hz2 rfl (by decide) _ i (vals ds) rfl (World.ownsRow.alloc Ho.out _) _ 1 1 [.int .i64 ((dg f n i + T * dg g m i + c) % 10000)] rfl rfl ?q1 ?q2 (by decide) ?q3 ?q4 ?q5 _ rfl ?_))
        (try (case q1 => exact cell_one_new _ _ _))
        case q2 => first | (intro u hu; simp at hu; rw [hu]; rfl) | rfl | simp
        case q3 => unfold maxLen; omega
        case q4 => omega
        case q5 => have := Below.size Hb.out; simp; omega
        intro g1 cap1 w1 hown1 hgrow hat hlt1
        rw [vals_app] at hown1
        have HB1 : Hid (Below w.heap.size w w1) := (Below.alloc Hb.out (Below.size Hb.out) _).grown hgrow (by have := Below.size Hb.out; simp; omega) (fun k hk => ((World.ownsRow.lt Ho.out) k hk).1)
        have HO1 : Hid (w1.ownsRow w.heap.size 3 1 (.slice (some ⟨g1, 0, none⟩) (i + 1) cap1) (i + 1) (vals (ds ++ [(dg f n i + T * dg g m i + c) % 10000]))) := hown1
        clear hown1 hgrow hat hlt1
        go_wp2
        go_roundw
        case rel => exact ⟨i + 1, _, _, by go_num, rfl, by omega, HJ1, HO1, HB1⟩
        case measure => simp [intOf]; omega
    · obtain rfl : i = n + 1 := by omega
      obtain ⟨g1, cap1, rfl, hc1, hd1⟩ := dg_own hown (by omega)
      have HD : Hid (DgA _ (some ⟨g1, 0, none⟩) (n + 1) (gt ds)) := hd1
      have HV : Hid (val (gt ds) (n + 1) = val f n + T * val g m) := HJ.out.done HF.out HG.out (by omega) (by omega) HT.out
      have HO : Hid (valid (gt ds) (n + 1)) := HJ.out.ok
      have Hb : Hid _ := hb0
      clear hown hb0 hd1 hle hlt HJ HT HA HB HF HG
      go_wp2_with (go_at_call_of 50 (Value.slice (some ⟨g1, 0, none⟩) (n + 1) cap1))
      refine (ccut _ _ _ (gt ds) _ HD.out (by omega) hc1).mono ?_
      rintro e w' ⟨k, hk, rfl, hnk, hz, rfl⟩
      have HN : Hid _ := hnk
      have HZ : Hid _ := hz
      clear hnk hz
      go_wp2
      go_ret
      exact ⟨_, k, cap1, gt ds, rfl, hk, by omega, HD.out.less hk, fun j hj => HO.out j (by omega), HN.out, (val_zero hk HZ.out).symm.trans HV.out, Hb.out⟩

set_option maxRecDepth 20000 in
set_option maxHeartbeats 1000000 in
theorem cjoint_m (a : Option Addr) (n cap : Nat) (a' : Option Addr) (m cap' : Nat) (T : Int) (f g : Nat → Int) (w : World) (hA : DgA w a n f) (hB : DgA w a' m g) (_hn : n ≤ 1000000) (hm : m ≤ 1000000) (hf : valid f n) (hg : valid g m) (hT : T = -1 ∧ val g m ≤ val f n ∨ 0 ≤ T ∧ T ≤ 9999) (hnm : n < m) :
    Calls Tryd.prog 37 #[.slice a n cap, .slice a' m cap', .int .i64 T] w fun e w' => ∃ a'' k cap'' h, e = .returned (.slice a'' k cap'') ∧ k ≤ m + 1 ∧ k ≤ cap'' ∧ DgA w' a'' k h ∧ valid h k ∧ norm h k ∧ val h k = val f n + T * val g m ∧ Below w.heap.size w w' := by
  obtain ⟨i0, hi, hz0, hz1, hz2⟩ := info_parts infoI
  have HA : Hid (DgA w a n f) := hA
  have HB : Hid (DgA w a' m g) := hB
  have HF : Hid (valid f n) := hf
  have HG : Hid (valid g m) := hg
  have HT : Hid (T = -1 ∧ val g m ≤ val f n ∨ 0 ≤ T ∧ T ≤ 9999) := hT
  have t1 : -1 ≤ T := by omega
  have t2 : T ≤ 9999 := by omega
  clear hA hB hf hg hT
  go_enter Tryd.func37, Tryd.ntmps37
  go_wp2
  go_loopw [7, 8, 9] (fun v x y X => ∃ (i : Nat) (c : Int) (ds : List Int), y = .int .i64 i ∧ x = .int .i64 c ∧ i ≤ m + 1 ∧ Hid (Jo f n g m T i c ds) ∧ X.ownsRow w.heap.size 3 1 v i (vals ds) ∧ Below w.heap.size w X) (fun _ _ y _ => m + 1 - (intOf y).toNat)
  case atStart => exact ⟨0, 0, [], rfl, rfl, Nat.zero_le _, Jo.start f n g m T, World.ownsRow_nil _ _ _ _, Below.refl _ _⟩
  case round =>
    obtain ⟨i, c, ds, rfl, rfl, hle, HJ, hown, hb0⟩ := hrel
    by_cases hlt : i ≤ m
    · have c1 : -1 ≤ c := HJ.out.lo
      have c2 : c ≤ 9999 := HJ.out.hi
      obtain ⟨d1, d2⟩ := dg_valid HF.out i
      obtain ⟨d3, d4⟩ := dg_valid HG.out i
      obtain ⟨d5, d6, -, -⟩ := mul_bd t1 t2 d3 d4
      have HX1 : Hid _ := HA.out.below hb0
      have HX2 : Hid _ := HB.out.below hb0
      have Hb : Hid _ := hb0
      have Ho : Hid _ := hown
      clear hb0 hown
      go_wp2_with (first | (go_at_call_of 49 (Value.slice a n cap); refine (cdigit _ _ _ _ f _ ?_ ?_).mono ?_; (exact HX1.out); (omega); rintro e w' ⟨rfl, rfl⟩) | (go_at_call_of 49 (Value.slice a' m cap'); refine (cdigit _ _ _ _ g _ ?_ ?_).mono ?_; (exact HX2.out); (omega); rintro e w' ⟨rfl, rfl⟩))
      by_cases hs : dg f n i + T * dg g m i + c < 0
      · have HJ1 : Hid (Jo f n g m T (i + 1) (-1 + (dg f n i + T * dg g m i + c + 10000) / 10000) (ds ++ [(dg f n i + T * dg g m i + c) % 10000])) := by
          have := HJ.out.step HF.out HG.out t1 t2 1 (dg f n i + T * dg g m i + c + 10000) (by omega) (by omega) (Or.inr ⟨rfl, hs⟩)
          have e : (dg f n i + T * dg g m i + c + 10000) % 10000 = (dg f n i + T * dg g m i + c) % 10000 := by omega
          rw [e] at this
          exact this
        refine wp_loop_rounds 2 ?_
        rw [rounds_succ]
        go_wp2
        rw [rounds_succ]
        go_wp2_with (at_builtin; go_must (refine wpList_append_lies _ rfl _ _ _ rfl w.heap.size 3 i0 (.int .i64 0) 1 8 Tryd.underlying43 hi hz0 hz1 hz2 rfl (by decide) _ i (vals ds) rfl (World.ownsRow.alloc Ho.out _) _ 1 1 [.int .i64 ((dg f n i + T * dg g m i + c) % 10000)] rfl rfl ?q1 ?q2 (by decide) ?q3 ?q4 ?q5 _ rfl ?_))
        (try (case q1 => exact cell_one_new _ _ _))
        case q2 => first | (intro u hu; simp at hu; rw [hu]; rfl) | rfl | simp
        case q3 => unfold maxLen; omega
        case q4 => omega
        case q5 => have := Below.size Hb.out; simp; omega
        intro g1 cap1 w1 hown1 hgrow hat hlt1
        rw [vals_app] at hown1
        have HB1 : Hid (Below w.heap.size w w1) := (Below.alloc Hb.out (Below.size Hb.out) _).grown hgrow (by have := Below.size Hb.out; simp; omega) (fun k hk => ((World.ownsRow.lt Ho.out) k hk).1)
        have HO1 : Hid (w1.ownsRow w.heap.size 3 1 (.slice (some ⟨g1, 0, none⟩) (i + 1) cap1) (i + 1) (vals (ds ++ [(dg f n i + T * dg g m i + c) % 10000]))) := hown1
        clear hown1 hgrow hat hlt1
        go_wp2
        go_roundw
        case rel => exact ⟨i + 1, _, _, by go_num, rfl, by omega, HJ1, HO1, HB1⟩
        case measure => simp [intOf]; omega
      · have HJ1 : Hid (Jo f n g m T (i + 1) ((dg f n i + T * dg g m i + c) / 10000) (ds ++ [(dg f n i + T * dg g m i + c) % 10000])) := by
          have := HJ.out.step HF.out HG.out t1 t2 0 (dg f n i + T * dg g m i + c) (by omega) (by omega) (Or.inl rfl)
          have e : -0 + (dg f n i + T * dg g m i + c) / 10000 = (dg f n i + T * dg g m i + c) / 10000 := by omega
          rw [e] at this
          exact this
        refine wp_loop_rounds 1 ?_
        rw [rounds_succ]
        go_wp2_with (at_builtin; go_must (refine wpList_append_lies _ rfl _ _ _ rfl w.heap.size 3 i0 (.int .i64 0) 1 8 Tryd.underlying43 hi hz0 hz1 hz2 rfl (by decide) _ i (vals ds) rfl (World.ownsRow.alloc Ho.out _) _ 1 1 [.int .i64 ((dg f n i + T * dg g m i + c) % 10000)] rfl rfl ?q1 ?q2 (by decide) ?q3 ?q4 ?q5 _ rfl ?_))
        (try (case q1 => exact cell_one_new _ _ _))
        case q2 => first | (intro u hu; simp at hu; rw [hu]; rfl) | rfl | simp
        case q3 => unfold maxLen; omega
        case q4 => omega
        case q5 => have := Below.size Hb.out; simp; omega
        intro g1 cap1 w1 hown1 hgrow hat hlt1
        rw [vals_app] at hown1
        have HB1 : Hid (Below w.heap.size w w1) := (Below.alloc Hb.out (Below.size Hb.out) _).grown hgrow (by have := Below.size Hb.out; simp; omega) (fun k hk => ((World.ownsRow.lt Ho.out) k hk).1)
        have HO1 : Hid (w1.ownsRow w.heap.size 3 1 (.slice (some ⟨g1, 0, none⟩) (i + 1) cap1) (i + 1) (vals (ds ++ [(dg f n i + T * dg g m i + c) % 10000]))) := hown1
        clear hown1 hgrow hat hlt1
        go_wp2
        go_roundw
        case rel => exact ⟨i + 1, _, _, by go_num, rfl, by omega, HJ1, HO1, HB1⟩
        case measure => simp [intOf]; omega
    · obtain rfl : i = m + 1 := by omega
      obtain ⟨g1, cap1, rfl, hc1, hd1⟩ := dg_own hown (by omega)
      have HD : Hid (DgA _ (some ⟨g1, 0, none⟩) (m + 1) (gt ds)) := hd1
      have HV : Hid (val (gt ds) (m + 1) = val f n + T * val g m) := HJ.out.done HF.out HG.out (by omega) (by omega) HT.out
      have HO : Hid (valid (gt ds) (m + 1)) := HJ.out.ok
      have Hb : Hid _ := hb0
      clear hown hb0 hd1 hle hlt HJ HT HA HB HF HG
      go_wp2_with (go_at_call_of 50 (Value.slice (some ⟨g1, 0, none⟩) (m + 1) cap1))
      refine (ccut _ _ _ (gt ds) _ HD.out (by omega) hc1).mono ?_
      rintro e w' ⟨k, hk, rfl, hnk, hz, rfl⟩
      have HN : Hid _ := hnk
      have HZ : Hid _ := hz
      clear hnk hz
      go_wp2
      go_ret
      exact ⟨_, k, cap1, gt ds, rfl, hk, by omega, HD.out.less hk, fun j hj => HO.out j (by omega), HN.out, (val_zero hk HZ.out).symm.trans HV.out, Hb.out⟩

theorem cjoint (a : Option Addr) (n cap : Nat) (a' : Option Addr) (m cap' : Nat) (T : Int) (f g : Nat → Int) (w : World) (hA : DgA w a n f) (hB : DgA w a' m g) (hn : n ≤ 1000000) (hm : m ≤ 1000000) (hf : valid f n) (hg : valid g m) (hT : T = -1 ∧ val g m ≤ val f n ∨ 0 ≤ T ∧ T ≤ 9999) :
    Calls Tryd.prog 37 #[.slice a n cap, .slice a' m cap', .int .i64 T] w fun e w' => ∃ a'' k cap'' h, e = .returned (.slice a'' k cap'') ∧ k ≤ max n m + 1 ∧ k ≤ cap'' ∧ DgA w' a'' k h ∧ valid h k ∧ norm h k ∧ val h k = val f n + T * val g m ∧ Below w.heap.size w w' := by
  rcases Nat.lt_or_ge n m with h | h
  · refine (cjoint_m a n cap a' m cap' T f g w hA hB hn hm hf hg hT h).mono ?_
    rintro e w' ⟨a'', k, cap'', p, h1, h2, h3⟩
    exact ⟨a'', k, cap'', p, h1, by omega, h3⟩
  · refine (cjoint_n a n cap a' m cap' T f g w hA hB hn hm hf hg hT h).mono ?_
    rintro e w' ⟨a'', k, cap'', p, h1, h2, h3⟩
    exact ⟨a'', k, cap'', p, h1, by omega, h3⟩
end Go.Proofs.YtmkfkjicfmllmaaDoor
