/- package wal: find -/
import Derived.Test.YtfjkockcgddgbaaGreatWal7
namespace Go.Proofs.YtfjkockcgddgbaaGreat
open Go.RowKit Go.Lib
attribute [local go_sem ↓] Go.wp_at_zero Go.wp_at_succ
def frT (log : List UInt8) (i : Nat) : ByteArray := ⟨((log.drop (64 + 1028 * i)).take 4).toArray⟩
def frN (log : List UInt8) (i : Nat) : Nat := numB (frT log i) 0
def fndM (log : List UInt8) (F : Int → Option Int) : Nat → Int → Option Int
  | 0 => F
  | i + 1 => updM (fndM log F i) (frN log i) i
theorem readN (S : DS) (hd : S.down = false) (i : Nat) (hi : 64 + 1028 * (i + 1) ≤ (S.lb 2).length) (hl : (S.lb 2).length ≤ 67108864) : rdE 1 (64 + 1028 * (i : Int)) 4 S.lb S.down = 0 ∧ rdS 1 (64 + 1028 * (i : Int)) 4 S.lb S.down = frT (S.lb 2) i ∧ (frT (S.lb 2) i).size = 4 := by
  have ha : askE 1 (64 + 1028 * (i : Int)) 4 S.down = 0 := by
    unfold askE fitsD
    rw [hd, if_pos (by simp; omega)]
    rfl
  have he : rdE 1 (64 + 1028 * (i : Int)) 4 S.lb S.down = 0 := by
    unfold rdE
    rw [if_pos ha]
    exact if_neg (by show ¬ ((S.lb 2).length : Int) < 64 + 1028 * (i : Int) + 4; omega)
  refine ⟨he, ?_, ?_⟩
  · unfold rdS
    rw [if_pos he]
    show (⟨(((S.lb 2).drop (64 + 1028 * (i : Int)).toNat).take 4).toArray⟩ : ByteArray) = ⟨(((S.lb 2).drop (64 + 1028 * i)).take 4).toArray⟩
    rw [show (64 + 1028 * (i : Int)).toNat = 64 + 1028 * i by omega]
  · show (((S.lb 2).drop (64 + 1028 * i)).take 4).toArray.size = 4
    simp
    omega
set_option maxRecDepth 20000 in
set_option maxHeartbeats 1000000 in
theorem cfind (X : World) (B D G bp bf m : Nat) (L : LS) (S : DS) (h : PL X B D G bp bf m L S) (hB : B ≤ X.heap.size) (hm : m + L.fr ≤ 900000) (hd : S.down = false) (hf : 0 < L.fr → 64 + 1028 * L.fr ≤ (S.lb 2).length) :
    Calls Tryz.prog 47 #[(.pointer (some ⟨G, 0, none⟩))] X fun e w' => e = .returned (.int .i64 0) ∧ PL w' B D G bp bf (m + L.fr) { L with pl := fndM (S.lb 2) L.pl L.fr } S ∧ BelL G bp bf B X w' ∧ But X w' (some bp) := by
  have hlen := h.dsk.len 2 (by decide)
  obtain ⟨c0, c1, c2, c3, c4, c5, c6, c7⟩ := h.cells
  have HP : Hid (PL X B D G bp bf m L S) := h
  have HB0 : Hid (B ≤ X.heap.size) := hB
  have HR : Hid (∀ i, i < L.fr → rdE 1 (64 + 1028 * (i : Int)) 4 S.lb S.down = 0 ∧ rdS 1 (64 + 1028 * (i : Int)) 4 S.lb S.down = frT (S.lb 2) i ∧ (frT (S.lb 2) i).size = 4) := fun i hi => readN S hd i (by have := hf (by omega); omega) hlen
  clear h hB hd c1 c2 c3 c4 c6 c7 c0
  go_enter Tryz.func47, Tryz.ntmps47
  go_wp2_with fail
  go_loopw [10] (fun u Y => ∃ i : Nat, u = .int .i64 i ∧ i ≤ L.fr ∧ Hid (PL Y B D G bp bf (m + i) { L with pl := fndM (S.lb 2) L.pl i } S) ∧ Hid (BelL G bp bf B X Y) ∧ Hid (But X Y (some bp))) (fun u _ => L.fr - (intOf u).toNat)
  case atStart => exact ⟨0, rfl, Nat.zero_le _, HP.out, BelL.refl _ _ _ _ _, But.refl _ _⟩
  case round =>
    clear c5
    obtain ⟨i, rfl, hi, HL, HF, HG⟩ := hrel
    by_cases hlt : i < L.fr
    · have k1 : (i : Int) < (L.fr : Int) := by omega
      obtain ⟨c0, c1, c2, c3, c4, c5, c6, c7⟩ := HL.out.cells
      clear c1 c2 c3 c4 c5 c7
      obtain ⟨e1, e2, e3⟩ := HR.out i hlt
      have f0 : Hid ((0 : Int) ≤ (i : Int) ∧ (i : Int) ≤ 4294967296) := (⟨by omega, by omega⟩ : (0 : Int) ≤ (i : Int) ∧ (i : Int) ≤ 4294967296)
      have HC : Hid (∀ W, PDs W B D S → Calls Tryz.prog 55 #[(.pointer (some ⟨D, 0, none⟩)), .int .i64 1, .int .i64 (64 + 1028 * (i : Int)), .int .i64 4] W fun e w' => e = .returned (.tuple #[.string (frT (S.lb 2) i), .int .i64 0]) ∧ w' = W) := fun W hW => by
        have := creadD 1 (64 + 1028 * (i : Int)) 4 W B D S hW
        rw [e1, e2] at this
        exact this
      have HN : Hid (∀ W, Calls Tryz.prog 92 #[.string (frT (S.lb 2) i), .int .i64 0] W fun e w' => e = .returned (.int .i64 (frN (S.lb 2) i : Nat)) ∧ w' = W) := fun W => cnumber (frT (S.lb 2) i) 0 W (by omega) (by omega)
      have hnl : Hid (frN (S.lb 2) i < 4294967296) := numB_lt _ _
      have HM : Hid (fndM (S.lb 2) L.pl (i + 1) = updM (fndM (S.lb 2) L.pl i) (frN (S.lb 2) i) i) := rfl
      clear e1 e2 e3
      generalize frT (S.lb 2) i = tx at *
      generalize frN (S.lb 2) i = nm at *
      go_wp2_with fail
      go_region_with (first | (go_at_call 57; refine (cframeAt _ _ f0.out.1 f0.out.2).mono ?_; rintro e w3 ⟨rfl, hw⟩; rw [hw]; clear hw) | (go_at_call 55; refine (HC.out _ (HL.out.dsk.below ((Below.refl _ _).drew))).mono ?_; rintro e w4 ⟨rfl, hw⟩; rw [hw]; clear hw))
      all_goals
        have hL2 : PL wr.drew.drew B D G bp bf (m + i) { L with pl := fndM (S.lb 2) L.pl i } S := HL.out.below (((Below.refl _ _).drew).drew)
        obtain ⟨Y, hrun, hMI, hgY⟩ := hL2.mp.put (by omega) (x := (nm : Int)) (v := (i : Int)) (i64_in (by omega) (by have := hnl.out; omega)) (i64_in (by omega) (by omega))
        have HY : Hid (PL Y B D G bp bf (m + (i + 1)) { L with pl := fndM (S.lb 2) L.pl (i + 1) } S) := by
          show PL _ _ _ _ _ _ _ _ _
          rw [HM.out]
          exact hL2.places hgY hMI (by omega)
        have HFY : Hid (BelL G bp bf B X Y) := (HF.out.trans (below_log (((Below.refl _ _).drew).drew) (Nat.le_trans HB0.out HF.out.size) G bp bf)).trans (grown_log hgY (Nat.le_trans HB0.out HF.out.size) (.inr (.inl rfl)) HL.out.low.2.1)
        have HGY : Hid (But X Y (some bp)) := HG.out.trans ⟨hgY.os, hgY.tape, hgY.output, hgY.size, hgY.block⟩
        clear hMI hgY hL2
        go_wp2_with fail
        go_region_with (first | (go_at_call 92; refine (HN.out _).mono ?_; rintro e w5 ⟨rfl, hw⟩; rw [hw]; clear hw))
        all_goals
          go_wp2
          go_roundw
          case rel => exact ⟨i + 1, by go_num, by omega, HY, HFY, HGY⟩
          case measure => simp [intOf]; omega
    · obtain rfl : i = L.fr := by omega
      go_wp2
      go_ret
      exact ⟨rfl, HL.out, HF.out, HG.out⟩
end Go.Proofs.YtfjkockcgddgbaaGreat
