/- a new log; a log on a disk of the same bytes: plain facts -/
import Derived.Test.YtfjkockcgddgbaaWalX
namespace Go.Proofs.Ytfjkockcgddgbaa
theorem op_up2 {lb : Nat → List UInt8} {ws : List Chg} {c f : Int} {t : ByteArray} (b : Bool) (hf : f = 0 ∨ f = 1) (ht : (t.size : Int) ≤ 67108864) : opD ⟨lb, ws, -1, c, false⟩ f 0 t b = (0, ⟨updF lb (2 * f.toNat) (onL 0 t b (lb (2 * f.toNat))), ws ++ [⟨f.toNat, 0, t, b⟩], -1, c + 1, false⟩) := by
  unfold opD
  dsimp only
  rw [if_pos (ask0 hf (by omega) ht), if_neg (show ¬ (-1 : Int) = 0 by decide)]
  rfl
def logN : List UInt8 := ll (markB ++ txtB 1 0 0)
def newS : DS := ⟨updF (updF (fun _ => []) 2 logN) 3 logN, [], -1, 4, false⟩
theorem logN_len : logN.length = 40 := by
  unfold logN
  rw [ll_len, ByteArray.size_append, txtB_size]
  rfl
theorem cut_none : onL 0 (⟨#[]⟩ : ByteArray) true [] = [] := rfl
theorem mark_size : markB.size = 16 := rfl
theorem beg_new : ∃ S1 S2 S3, Beg newD S1 S2 S3 newS 0 := by
  have hs : (markB ++ txtB 1 0 0).size = 40 := logN_len
  have e1 : opD newD 1 0 ⟨#[]⟩ true = (0, ⟨updF (fun _ => []) 2 [], [⟨1, 0, ⟨#[]⟩, true⟩], -1, 1, false⟩) := by
    rw [show newD = ⟨fun _ => [], [], -1, 0, false⟩ from rfl, op_up2 true (.inr rfl) (by decide)]
    rfl
  have u0 : updF (fun _ : Nat => ([] : List UInt8)) 2 [] = fun _ => [] := by funext i; unfold updF; split <;> rfl
  have u1 : updF (fun _ : Nat => ([] : List UInt8)) 3 [] = fun _ => [] := by funext i; unfold updF; split <;> rfl
  rw [u0] at e1
  have e2 : synD ⟨fun _ => [], [⟨1, 0, ⟨#[]⟩, true⟩], -1, 1, false⟩ 1 = (0, ⟨fun _ => [], [], -1, 2, false⟩) := by
    rw [syn_up (.inr rfl)]
    show (0, DS.mk (updF (fun _ => []) 3 []) [] (-1) 2 false) = _
    rw [u1]
  have e3 : opD ⟨fun _ => [], [], -1, 2, false⟩ 1 0 (markB ++ txtB 1 0 0) false = (0, ⟨updF (fun _ => []) 2 logN, [⟨1, 0, markB ++ txtB 1 0 0, false⟩], -1, 3, false⟩) := by
    rw [op_up2 false (.inr rfl) (by rw [hs]; decide)]
    have e : onL 0 (markB ++ txtB 1 0 0) false [] = logN := onL_new _
    show (0, DS.mk (updF (fun _ => []) 2 (onL 0 (markB ++ txtB 1 0 0) false [])) _ (-1) 3 false) = _
    rw [e]
    rfl
  have e4 : synD ⟨updF (fun _ => []) 2 logN, [⟨1, 0, markB ++ txtB 1 0 0, false⟩], -1, 3, false⟩ 1 = (0, newS) := by
    rw [syn_up (.inr rfl)]
    have e : onL 0 (markB ++ txtB 1 0 0) false [] = logN := onL_new _
    show (0, DS.mk (updF (updF (fun _ => []) 2 logN) 3 (onL 0 (markB ++ txtB 1 0 0) false [])) [] (-1) 4 false) = _
    rw [e]
    rfl
  exact ⟨_, _, _, e1, e2, e3, e4⟩
theorem logN_byt {i : Nat} (h : i < 64) : bytS (headP logN) i = bytS (markB ++ txtB 1 0 0) i := by
  rw [headP_byt _ h]
  exact bytS_ll _ _
theorem tp_new : TP logN ⟨0, 1, 0, 0⟩ := by
  have hs : (markB ++ txtB 1 0 0).size = 40 := logN_len
  have hh := headP_size logN
  have ht := txtB_size 1 0 0
  refine ⟨.inl ⟨by rw [logN_len]; decide, by rw [logN_len]; decide⟩, ?_, by decide, by decide, by decide, by decide, ?_, .inl rfl, .inl ?_⟩
  · unfold isMark
    refine decide_eq_true ⟨by rw [hh]; decide, ext_byt (by rw [ByteArray.size_extract, hh, mark_size]; decide) fun i hi => ?_⟩
    rw [ByteArray.size_extract, hh] at hi
    have hi : i < 16 := by omega
    rw [byt_cut (by omega) (by omega), logN_byt (by omega), byt_left (by rw [mark_size]; omega), Nat.zero_add]
  · show (headP logN).extract 16 40 = txtB 1 0 0
    refine ext_byt (by rw [ByteArray.size_extract, hh, ht]; decide) fun i hi => ?_
    rw [ByteArray.size_extract, hh] at hi
    have hi : i < 24 := by omega
    rw [byt_cut (by omega) (by omega), logN_byt (by omega), show 16 + i = markB.size + i from rfl, byt_right]
  · show numB (headP logN) 52 = 0
    have z : ∀ i, i < 4 → bytS (headP logN) (52 + i) = 0 := fun i hi => by
      rw [logN_byt (by omega)]
      unfold bytS
      rw [dif_neg (by omega)]
    have z0 := z 0 (by decide)
    have z1 := z 1 (by decide)
    have z2 := z 2 (by decide)
    have z3 := z 3 (by decide)
    unfold numB numK numK numK numK numK
    rw [z0, z1, z2, z3]
def noP : Int → Option ByteArray := fun _ => none
theorem vw_none (log : List UInt8) : Vw [] log 0 noP := fun _ _ => ⟨(fun v hv => by cases hv), fun _ => ⟨(fun t ht => by cases ht), fun _ _ _ => rfl⟩⟩
theorem inv_new : Inv ⟨⟨0, 1, 0, 0⟩, 0, fun _ => none, fun _ => none⟩ newS noP noP 0 :=
  ⟨⟨Nat.le_refl _, Nat.le_refl _⟩, .inl rfl, ⟨tp_new, rfl, Wt.nil _ _, rfl⟩, rfl, .inr rfl, rfl, rfl, (fun x v hv => by cases hv), (fun x v hv => by cases hv), vw_none _, vw_none _⟩
theorem new_last : lastC (newD.lb 2) = cm0 := rfl
/- what comes of it on a disk of the same bytes -/
theorem GoodS.moved {S : DS} {F : Int → Option ByteArray} {c : Cm} (h : GoodS S F c) (hs : ∀ i < 4, (S.lb i).length ≤ 67108864) : lastC ((mv S 2).lb 2) = c ∧ (mv S 2).down = false ∧ ∀ n : Nat, n < 6 → hasA (opnL ((mv S 2).lb 2)) (mv S 2) F n = true := by
  obtain ⟨m0, m1, m2, m3, m4⟩ := mv_two S hs
  have hM := mv_ok S hs 2 (Nat.le_refl _)
  refine ⟨by rw [m2]; exact h.tp.last, hM.down, fun n hn => ?_⟩
  exact Vw.has (c := c) (by rw [m0, m2]; exact h.vw) (by rw [m2]; exact h.tp) hM.down (by rw [m0]; exact hs 0 (by decide)) (by rw [m2]; exact hs 2 (by decide)) hn
end Go.Proofs.Ytfjkockcgddgbaa
