/- relstoreref: a log begun anew -/
import Derived.Test.YtfjkockcgddgbaaGreatLrH
import Derived.Test.YtfjkockcgddgbaaGreatMgA
namespace Go.Proofs.YtfjkockcgddgbaaGreat
open Go.RowKit Go.Lib
attribute [local go_sem ↓] Go.wp_at_zero Go.wp_at_succ
/- a disk that is up, and will stay so, takes the four steps -/
theorem beg_of {S : DS} (hd : S.down = false) (hl : S.left = -1) (pg : Nat) : ∃ S1 S2 S3 S4, Beg S S1 S2 S3 S4 pg ∧ S4.down = false ∧ S4.left = -1 ∧ S4.ws = othF 1 S.ws ∧ S4.lb 0 = S.lb 0 ∧ S4.lb 1 = S.lb 1 ∧ S4.count = S.count + 4 := by
  obtain ⟨lb, ws, left, count, down⟩ := S
  subst hd hl
  have hs : ((markB ++ txtB 1 0 pg).size : Int) ≤ 67108864 := by
    rw [ByteArray.size_append, txtB_size]
    decide
  refine ⟨_, _, _, _, ⟨op_up2 true (.inr rfl) (by decide), syn_up (.inr rfl), op_up2 false (.inr rfl) hs, syn_up (.inr rfl)⟩, rfl, rfl, ?_, rfl, rfl, ?_⟩
  · show othF 1 (othF 1 (ws ++ [⟨1, 0, ⟨#[]⟩, true⟩]) ++ [⟨1, 0, markB ++ txtB 1 0 pg, false⟩]) = othF 1 ws
    rw [othF_snoc, if_pos rfl, othF_snoc, if_pos rfl]
    unfold othF
    rw [List.filter_filter]
    congr 1
    funext x
    simp
  · show count + 1 + 1 + 1 + 1 = count + 4
    omega
def stg (S S1 S2 S3 S4 : DS) : Nat → DS
  | 0 => S
  | 1 => S1
  | 2 => S2
  | 3 => S3
  | _ => S4
set_option maxRecDepth 20000 in
set_option maxHeartbeats 1000000 in
theorem ranew (X : World) (B R M m : Nat) (fs : List (Int × ByteArray)) (c : Cm) (S S1 S2 S3 S4 : DS) (h : RL X B R M fs c S) (hB : B ≤ X.heap.size) (ho : okS S m) (hm : m ≤ 900000) (hp : c.pages < 4294967296) (hS : Beg S S1 S2 S3 S4 c.pages) :
    Calls Tryz.prog 50 #[(.pointer (some ⟨M, 0, none⟩))] X fun e w' => e = .returned (.int .i64 0) ∧ RL w' B R M fs ⟨0, 1, c.frames, c.pages⟩ S4 ∧ BelT tyL B X w' := by
  obtain ⟨vf, hx⟩ := h
  obtain ⟨c0, c1, c2, c3, c4, c5⟩ := hx.cells
  have f4 := hx.unfrozen 4
  have f5 := hx.unfrozen 5
  have hM := hx.lt
  have HB0 : Hid (B ≤ X.heap.size) := hB
  obtain ⟨b1, b2, b3, b4⟩ := hS
  have o1 : okS S1 (m + 1) := by have := opD_ok ho 1 0 ⟨#[]⟩ true; rw [b1] at this; exact this
  have o2 : okS S2 (m + 2) := by have := synD_ok o1 1; rw [b2] at this; exact this
  have o3 : okS S3 (m + 3) := by have := opD_ok o2 1 0 (markB ++ txtB 1 0 c.pages) false; rw [b3] at this; exact this
  have HO : Hid ((okS S m ∧ m ≤ 1000000) ∧ (okS S1 (m + 1) ∧ m + 1 ≤ 1000000) ∧ (okS S2 (m + 2) ∧ m + 2 ≤ 1000000) ∧ (okS S3 (m + 3) ∧ m + 3 ≤ 1000000)) := (⟨⟨ho, by omega⟩, ⟨o1, by omega⟩, ⟨o2, by omega⟩, ⟨o3, by omega⟩⟩ : _ ∧ _ ∧ _ ∧ _)
  have HS1 : Hid _ := b1
  have HS2 : Hid _ := b2
  have HS3 : Hid (opD S2 1 0 ((⟨#[114, 101, 108, 115, 116, 111, 114, 101, 32, 108, 111, 103, 32, 48, 48, 49]⟩ : ByteArray) ++ txtB 1 0 c.pages) false = (0, S3)) := b3
  have HS4 : Hid _ := b4
  have HX0 : Hid (RLx ((X.setCell ⟨M, 4, none⟩ (.int .i64 0)).setCell ⟨M, 5, none⟩ (.int .i64 1)) B R M fs vf ⟨0, 1, c.frames, c.pages⟩ S) := by
    have h1 : RLx (X.setCell ⟨M, 4, none⟩ (.int .i64 0)) B R M fs vf ⟨0, c.number, c.frames, c.pages⟩ S := hx.own rfl
    exact h1.own rfl
  have HF0 : Hid (BelT tyL B X ((X.setCell ⟨M, 4, none⟩ (.int .i64 0)).setCell ⟨M, 5, none⟩ (.int .i64 1))) := ((BelT.refl _ _ _).setCell hx.low (fun _ => hx.nf) _).setCell hx.low (fun _ => hx.nf) _
  obtain ⟨pg, hpg⟩ : ∃ pg, pg = c.pages := ⟨_, rfl⟩
  rw [← hpg] at hp HS3 HX0 c3 ⊢
  obtain ⟨cf, hcf⟩ : ∃ cf, cf = c.frames := ⟨_, rfl⟩
  rw [← hcf] at HX0 c2 ⊢
  have sT := txtB_size 1 0 pg
  clear hx hB ho b1 b2 b3 b4 o1 o2 o3 hpg hcf
  go_enter Tryz.func50, Tryz.ntmps50
  go_upto_block 0 with fail
  clear c0 c1 c2 c3 c4 c5 f4 f5 hM
  generalize (X.setCell ⟨M, 4, none⟩ (.int .i64 0)).setCell ⟨M, 5, none⟩ (.int .i64 1) = W at *
  go_wp2_with fail
  go_loopw [3] (fun u w => ∃ k : Nat, u = .int .i64 k ∧ k ≤ 4 ∧ Hid (RLx w B R M fs vf ⟨0, 1, cf, pg⟩ (stg S S1 S2 S3 S4 k)) ∧ Hid (BelT tyL B X w)) (fun u _ => 4 - (intOf u).toNat)
  case atStart => exact ⟨0, rfl, Nat.zero_le _, HX0, HF0⟩
  case round =>
    clear HX0 HF0
    obtain ⟨k, rfl, hk, HX, HF⟩ := hrel
    obtain ⟨c0, c1, c2, c3, c4, c5⟩ := HX.out.cells
    have hM := HX.out.lt
    have HBw : Hid (B ≤ wr.heap.size) := Nat.le_trans HB0.out HF.out.size
    rcases (show k = 0 ∨ k = 1 ∨ k = 2 ∨ k = 3 ∨ k = 4 by omega) with rfl | rfl | rfl | rfl | rfl
    · go_wp2_with fail
      refine (rcutD 1 0 wr B R S m HX.out.dsk HBw.out HO.out.1.1 HO.out.1.2).mono ?_
      rw [HS1.out]
      rintro e w5 ⟨rfl, hp5, hb5⟩
      have HX5 : Hid (RLx w5 B R M fs vf ⟨0, 1, cf, pg⟩ (stg S S1 S2 S3 S4 1)) := HX.out.disk hb5 hp5
      have HF5 : Hid (BelT tyL B X w5) := HF.out.trans hb5.toL
      clear hp5 hb5 HX HF c0 c1 c2 c3 c4 c5 hM
      go_wp2_with fail
      go_roundw
      case rel => exact ⟨1, by go_num, by omega, HX5, HF5⟩
      case measure => simp [intOf]
    · go_wp2_with fail
      refine (rsyncD 1 wr B R S1 (m + 1) HX.out.dsk HBw.out HO.out.2.1.1 HO.out.2.1.2).mono ?_
      rw [HS2.out]
      rintro e w5 ⟨rfl, hp5, hb5⟩
      have HX5 : Hid (RLx w5 B R M fs vf ⟨0, 1, cf, pg⟩ (stg S S1 S2 S3 S4 2)) := HX.out.disk hb5 hp5
      have HF5 : Hid (BelT tyL B X w5) := HF.out.trans hb5.toL
      clear hp5 hb5 HX HF c0 c1 c2 c3 c4 c5 hM
      go_wp2_with fail
      go_roundw
      case rel => exact ⟨2, by go_num, by omega, HX5, HF5⟩
      case measure => simp [intOf]
    · go_upto_region 11 with fail
      go_region_with (first | (go_at_call 93; refine (rslot 1 0 pg _ (by decide) (by decide) (by omega)).mono ?_; rintro e w4 ⟨rfl, hb4⟩; have HX4 : Hid (Below wr.heap.size wr w4) := undrewB hb4; obtain ⟨hc4, hf4⟩ := bcell HX4.out; clear hb4) | (go_at_call 60; refine (rwriteD 1 0 ((⟨#[114, 101, 108, 115, 116, 111, 114, 101, 32, 108, 111, 103, 32, 48, 48, 49]⟩ : ByteArray) ++ txtB 1 0 pg) _ B R S2 (m + 2) (HX.out.dsk.below HX4.out) (Nat.le_trans HBw.out HX4.out.size) HO.out.2.2.1.1 HO.out.2.2.1.2).mono ?_; rw [HS3.out]; rintro e w5 ⟨rfl, hp5, hb5⟩))
      all_goals
        have HX5 : Hid (RLx w5 B R M fs vf ⟨0, 1, cf, pg⟩ (stg S S1 S2 S3 S4 3)) := (HX.out.below HX4.out).disk hb5 hp5
        have HF5 : Hid (BelT tyL B X w5) := HF.out.trans ((⟨HX4.out.mono HBw.out, fun b hb _ => HX4.out.block b hb⟩ : BelT tyL B wr w4).trans hb5.toL)
        clear hp5 hb5 HX4 hc4 hf4 HX HF c0 c1 c2 c3 c4 c5 hM
        go_wp2_with fail
        go_roundw
        case rel => exact ⟨3, by go_num, by omega, HX5, HF5⟩
        case measure => simp [intOf]
    · go_wp2_with fail
      refine (rsyncD 1 wr B R S3 (m + 3) HX.out.dsk HBw.out HO.out.2.2.2.1 HO.out.2.2.2.2).mono ?_
      rw [HS4.out]
      rintro e w5 ⟨rfl, hp5, hb5⟩
      have HX5 : Hid (RLx w5 B R M fs vf ⟨0, 1, cf, pg⟩ (stg S S1 S2 S3 S4 4)) := HX.out.disk hb5 hp5
      have HF5 : Hid (BelT tyL B X w5) := HF.out.trans hb5.toL
      clear hp5 hb5 HX HF c0 c1 c2 c3 c4 c5 hM
      go_wp2_with fail
      go_roundw
      case rel => exact ⟨4, by go_num, by omega, HX5, HF5⟩
      case measure => simp [intOf]
    · go_wp2_with fail
      go_ret
      exact ⟨rfl, ⟨_, HX.out⟩, HF.out⟩
end Go.Proofs.YtfjkockcgddgbaaGreat
