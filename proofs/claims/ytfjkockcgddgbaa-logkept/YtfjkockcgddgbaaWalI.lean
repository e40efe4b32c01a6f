/- package relstorekeep: moved -/
import Derived.Test.YtfjkockcgddgbaaWalH
namespace Go.Proofs.Ytfjkockcgddgbaa
open Go.RowKit Go.Lib Go.Maps Go.Sort Go.Shelf
attribute [local go_sem ↓] Go.wp_at_zero Go.wp_at_succ
def newD : DS := ⟨fun _ => [], [], -1, 0, false⟩
def txtF (S : DS) (i : Nat) : ByteArray := ⟨(S.lb (2 * i)).toArray⟩
/- the bytes of the first files of a disk, on a new one -/
def mv (S : DS) : Nat → DS
  | 0 => newD
  | i + 1 => (synD (opD (mv S i) i 0 (txtF S i) false).2 i).2
theorem ask0 {f n : Int} (hf : f = 0 ∨ f = 1) (h0 : 0 ≤ n) (h1 : n ≤ 67108864) : askE f 0 n false = 0 := by
  have : fitsD f 0 n := by
    unfold fitsD
    rcases hf with rfl | rfl <;> simp <;> omega
  unfold askE
  rw [if_pos this]
  rfl
structure Mv (S : DS) (i : Nat) : Prop where
  down : (mv S i).down = false
  left : (mv S i).left = -1
  ok : okS (mv S i) (2 * i)
theorem mv_op {T : DS} (hd : T.down = false) (hl : T.left = -1) (f : Nat) (hf : f < 2) (t : ByteArray) (ht : t.size ≤ 67108864) : ∃ T1 T2, opD T f 0 t false = (0, T1) ∧ synD T1 f = (0, T2) ∧ T2.down = false ∧ T2.left = -1 := by
  have hf' : (f : Int) = 0 ∨ (f : Int) = 1 := by omega
  have h1 : opD T f 0 t false = (0, (opD T f 0 t false).2) ∧ (opD T f 0 t false).2.down = false ∧ (opD T f 0 t false).2.left = -1 := by
    unfold opD
    rw [hd, if_pos (ask0 hf' (by omega) (by omega)), hl, if_neg (by decide)]
    exact ⟨rfl, rfl, rfl⟩
  obtain ⟨h1, hd1, hl1⟩ := h1
  have h2 : synD (opD T f 0 t false).2 f = (0, (synD (opD T f 0 t false).2 f).2) ∧ (synD (opD T f 0 t false).2 f).2.down = false ∧ (synD (opD T f 0 t false).2 f).2.left = -1 := by
    generalize (opD T f 0 t false).2 = T1 at *
    unfold synD
    rw [hd1, if_pos (ask0 hf' (by omega) (by omega)), hl1, if_neg (by decide)]
    exact ⟨rfl, rfl, rfl⟩
  exact ⟨_, _, h1, h2.1, h2.2.1, h2.2.2⟩
theorem mv_ok (S : DS) (hs : ∀ i < 4, (S.lb i).length ≤ 67108864) : ∀ i ≤ 2, Mv S i
  | 0, _ => ⟨rfl, rfl, ⟨by show (_ ≤ (-1 : Int) ∧ (-1 : Int) ≤ _); omega, Int.le_refl _, Int.le_refl _, Nat.le_refl _⟩⟩
  | i + 1, hi => by
    have h := mv_ok S hs i (by omega)
    obtain ⟨T1, T2, h1, h2, h3, h4⟩ := mv_op h.down h.left i (by omega) (txtF S i) (by show ((S.lb (2 * i)).toArray).size ≤ _; rw [List.size_toArray]; exact hs (2 * i) (by omega))
    have e : mv S (i + 1) = T2 := by show (synD (opD (mv S i) i 0 (txtF S i) false).2 i).2 = _; rw [h1, h2]
    have o1 := opD_ok h.ok i 0 (txtF S i) false
    rw [h1] at o1
    have o2 := synD_ok o1 i
    rw [h2] at o2
    exact ⟨by rw [e]; exact h3, by rw [e]; exact h4, by rw [e]; exact okS_up o2 (by omega)⟩
set_option maxRecDepth 20000 in
set_option maxHeartbeats 1000000 in
theorem cmoved (X : World) (B D : Nat) (S : DS) (h : PDs X B D S) (hd : S.down = false) :
    Calls Try.prog 22 #[(.pointer (some ⟨D, 0, none⟩))] X fun e w' => e = .returned (.pointer (some ⟨X.heap.size, 0, none⟩)) ∧ PDs w' X.heap.size X.heap.size (mv S 2) ∧ Below X.heap.size X w' := by
  have HP : Hid (PDs X B D S) := h
  have HL : Hid (∀ i < 4, (S.lb i).length ≤ 67108864) := h.len
  have HD : Hid (S.down = false) := hd
  clear h hd
  go_enter Try.func22, Try.ntmps22
  go_wp2_with fail
  refine (cnew X).mono ?_
  rintro e w1 ⟨rfl, hp1, hb1⟩
  have HP1 : Hid (PDs w1 X.heap.size X.heap.size (mv S 0)) := ⟨_, _, hp1⟩
  have HB1 : Hid (Below X.heap.size X w1) := hb1
  clear hp1 hb1
  go_wp2_with fail
  go_loopw [4] (fun u Y => ∃ i : Nat, u = .int .i64 i ∧ i ≤ 2 ∧ Hid (PDs Y X.heap.size X.heap.size (mv S i)) ∧ Hid (Below X.heap.size X Y)) (fun u _ => 2 - (intOf u).toNat)
  case atStart => exact ⟨0, rfl, Nat.zero_le _, HP1, HB1⟩
  case round =>
    clear HP1 HB1
    obtain ⟨i, rfl, hi, HP1, HB1⟩ := hrel
    by_cases hlt : i < 2
    · have k1 : (i : Int) < 2 := by omega
      have hf : (i : Int) = 0 ∨ (i : Int) = 1 := by omega
      have hL := HL.out (2 * i) (by omega)
      have hM := mv_ok S HL.out i (by omega)
      have HM : Hid (Mv S i) := hM
      obtain ⟨T1, T2, h1, h2, h3, h4⟩ := mv_op hM.down hM.left i (by omega) (txtF S i) (by show ((S.lb (2 * i)).toArray).size ≤ _; rw [List.size_toArray]; exact hL)
      have hE : mv S (i + 1) = T2 := by show (synD (opD (mv S i) i 0 (txtF S i) false).2 i).2 = _; rw [h1, h2]
      have HE : Hid (mv S (i + 1) = T2) := hE
      have H1 : Hid (opD (mv S i) i 0 (txtF S i) false = (0, T1)) := h1
      have H2 : Hid (synD T1 i = (0, T2)) := h2
      have HO1 : Hid (okS T1 (2 * i + 1)) := by
        have := opD_ok hM.ok i 0 (txtF S i) false
        rw [h1] at this
        exact this
      obtain ⟨n, hn⟩ : ∃ n : Int, n = ((S.lb (2 * i)).length : Int) := ⟨_, rfl⟩
      have HS : Hid (sizV i S.lb S.down = n ∧ askE i 0 0 S.down = 0) := by
        have a0 : askE (i : Int) 0 0 S.down = 0 := by rw [HD.out]; exact ask0 hf (by omega) (by omega)
        refine (⟨?_, a0⟩ : _ ∧ _)
        unfold sizV
        rw [if_pos a0, Int.toNat_natCast, hn]
      have HR : Hid (rdS i 0 n S.lb S.down = txtF S i ∧ rdE i 0 n S.lb S.down = 0) := by
        have a0 : askE (i : Int) 0 n S.down = 0 := by rw [HD.out]; exact ask0 hf (by omega) (by omega)
        have a1 : rdE (i : Int) 0 n S.lb S.down = 0 := by
          unfold rdE
          rw [if_pos a0, Int.toNat_natCast, if_neg (by omega)]
        refine (⟨?_, a1⟩ : _ ∧ _)
        unfold rdS
        rw [if_pos a1, Int.toNat_natCast, hn]
        show _ = (⟨(S.lb (2 * i)).toArray⟩ : ByteArray)
        simp
      clear hn hE h1 h2 h3 h4 hM hL
      have HPo : Hid (PDs wr B D S) := HP.out.below HB1.out
      go_wp2_with fail
      refine (csizeD i _ B D S HPo.out).mono ?_
      rw [HS.out.1, HS.out.2]
      rintro e1 w2 ⟨rfl, hw2⟩
      rw [hw2]
      clear hw2
      go_wp2_with fail
      refine (creadD i 0 n _ B D S HPo.out).mono ?_
      rw [HR.out.1, HR.out.2]
      rintro e1 w3 ⟨rfl, hw3⟩
      rw [hw3]
      clear hw3
      go_wp2_with fail
      refine (cwriteD i 0 (txtF S i) _ X.heap.size X.heap.size (mv S i) (2 * i) HP1.out HB1.out.size HM.out.ok (by omega)).mono ?_
      rw [H1.out]
      rintro e1 w4 ⟨rfl, hp4, hb4⟩
      have HP4 : Hid (PDs w4 X.heap.size X.heap.size T1) := hp4
      have HB4 : Hid (Below X.heap.size X w4) := HB1.out.trans hb4.toBelow
      clear hp4 hb4
      go_wp2_with fail
      refine (csyncD i _ X.heap.size X.heap.size T1 (2 * i + 1) HP4.out HB4.out.size HO1.out (by omega)).mono ?_
      rw [H2.out]
      rintro e1 w5 ⟨rfl, hp5, hb5⟩
      have HP5 : Hid (PDs w5 X.heap.size X.heap.size (mv S (i + 1))) := by
        show PDs _ _ _ _
        rw [HE.out]
        exact hp5
      have HB5 : Hid (Below X.heap.size X w5) := HB4.out.trans hb5.toBelow
      clear hp5 hb5
      go_wp2
      go_roundw
      case rel => exact ⟨i + 1, by go_num, by omega, HP5, HB5⟩
      case measure => simp [intOf]; omega
    · obtain rfl : i = 2 := by omega
      go_wp2
      go_ret
      exact ⟨rfl, HP1.out, HB1.out⟩
end Go.Proofs.Ytfjkockcgddgbaa
