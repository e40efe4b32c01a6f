/- package disk: Write, Cut -/
import Derived.Test.YtfjkockcgddgbaaDsk4
namespace Go.Proofs.Ytfjkockcgddgbaa
open Go.RowKit Go.Lib
attribute [local go_sem ↓] Go.wp_at_zero Go.wp_at_succ
theorem but_below {X Y : World} {B D : Nat} (h : But X Y (some D)) (hB : B ≤ X.heap.size) (hD : B ≤ D) (hf : ¬ farT tyP X D) : BelT tyP B X Y :=
  BelT.row h hB (fun b e => by injection e with e; subst e; exact ⟨hD, hf⟩)
def decL (left : Int) : Int := if 0 < left then left - 1 else left
/- what Write and Cut answer, and make of the disk -/
def opPost (f at' : Int) (t : ByteArray) (c : Bool) (X : World) (B D : Nat) (vb : Nat → Value) (vw : Value) (lb : Nat → List UInt8) (ws : List Chg) (left count : Int) (down : Bool) (e : Ending) (w' : World) : Prop :=
  (¬ askE f at' t.size down = 0 ∧ e = .returned (.int .i64 (askE f at' t.size down)) ∧ w' = X) ∨
  (askE f at' t.size down = 0 ∧ left = 0 ∧ e = .returned (.int .i64 2) ∧ PD w' B D vb vw lb ws left count true ∧ BelT tyP B X w') ∨
  (askE f at' t.size down = 0 ∧ ¬ left = 0 ∧ e = .returned (.int .i64 0) ∧ (∃ (f' p : Nat) (v' vw' : Value), f = f' ∧ at' = p ∧ f' < 2 ∧ PD w' B D (updF vb (2 * f') v') vw' (updF lb (2 * f') (onL p t c (lb (2 * f')))) (ws ++ [⟨f', p, t, c⟩]) (decL left) (count + 1) down) ∧ BelT tyP B X w')
theorem ask_fits {f at' n : Int} {down : Bool} (h : askE f at' n down = 0) : ∃ f' p : Nat, f = f' ∧ at' = p ∧ f' < 2 ∧ (p : Int) + n ≤ 67108864 := by
  unfold askE at h
  split at h
  · rename_i hf
    unfold fitsD at hf
    have hf := of_decide_eq_true hf
    exact ⟨f.toNat, at'.toNat, by omega, by omega, by omega, by omega⟩
  · cases h
set_option maxRecDepth 20000 in
set_option maxHeartbeats 1000000 in
theorem cwrite (f at' : Int) (t : ByteArray) (X : World) (B D : Nat) (vb : Nat → Value) (vw : Value) (lb : Nat → List UInt8) (ws : List Chg) (left count : Int) (down : Bool) (h : PD X B D vb vw lb ws left count down) (hB : B ≤ X.heap.size) (hl : -9223372036854775808 ≤ left ∧ left ≤ 9223372036854775807) (hc : 0 ≤ count ∧ count ≤ 4611686018427387904) (hw : ws.length ≤ 1000000) :
    Calls Try.prog 27 #[(.pointer (some ⟨D, 0, none⟩)), .int .i64 f, .int .i64 at', .string t] X (opPost f at' t false X B D vb vw lb ws left count down) := by
  have H : Hid (PD X B D vb vw lb ws left count down) := h
  have hlow := h.low
  clear h
  go_enter Try.func27, Try.ntmps27
  go_wp2_with fail
  refine (cbegin f at' ((t : ByteArray).size : Int) X B D vb vw lb ws left count down H.out hl hc).mono ?_
  rintro e w1 h
  rcases h with ⟨ha, rfl, rfl⟩ | ⟨ha, h0, rfl, hP, hb⟩ | ⟨ha, h0, rfl, hP, hb⟩
  · have HA : Hid _ := ha
    go_wp2_with fail
    go_ret
    exact .inl ⟨HA.out, rfl, rfl⟩
  · have HA : Hid _ := ha
    have HP : Hid _ := hP
    have HBB : Hid _ := but_below hb hB hlow H.out.nf
    clear ha hP hb
    go_wp2_with fail
    go_ret
    exact .inr (.inl ⟨HA.out, h0, rfl, HP.out, HBB.out⟩)
  · have HA : Hid _ := ha
    have HP : Hid (PD w1 B D vb vw lb ws (decL left) (count + 1) down) := hP
    have hBB := but_below hb hB hlow H.out.nf
    have hB1 : B ≤ w1.heap.size := Nat.le_trans hB hBB.size
    have HBB : Hid _ := hBB
    obtain ⟨f', p, rfl, rfl, hf, hfit⟩ := ask_fits ha
    have hfit' : p + (t : ByteArray).size ≤ 67108864 := by omega
    clear ha hP hb hBB
    rcases (show f' = 0 ∨ f' = 1 by omega) with rfl | rfl
    · go_wp2_with fail
      refine (cturn0 p t false hfit' (fun h => by cases h) w1 B D vb vw lb ws (decL left) (count + 1) down HP.out hB1 hw).mono ?_
      rintro e w2 ⟨rfl, ⟨v', vw', hQ⟩, hbb⟩
      have HQ : Hid _ := hQ
      have HB2 : Hid _ := HBB.out.trans hbb
      clear hQ hbb
      go_wp2_with fail
      go_ret
      exact .inr (.inr ⟨HA.out, h0, rfl, ⟨0, p, v', vw', rfl, rfl, by decide, HQ.out⟩, HB2.out⟩)
    · go_wp2_with fail
      refine (cturn1 p t false hfit' (fun h => by cases h) w1 B D vb vw lb ws (decL left) (count + 1) down HP.out hB1 hw).mono ?_
      rintro e w2 ⟨rfl, ⟨v', vw', hQ⟩, hbb⟩
      have HQ : Hid _ := hQ
      have HB2 : Hid _ := HBB.out.trans hbb
      clear hQ hbb
      go_wp2_with fail
      go_ret
      exact .inr (.inr ⟨HA.out, h0, rfl, ⟨1, p, v', vw', rfl, rfl, by decide, HQ.out⟩, HB2.out⟩)
set_option maxRecDepth 20000 in
set_option maxHeartbeats 1000000 in
theorem ccut (f at' : Int) (X : World) (B D : Nat) (vb : Nat → Value) (vw : Value) (lb : Nat → List UInt8) (ws : List Chg) (left count : Int) (down : Bool) (h : PD X B D vb vw lb ws left count down) (hB : B ≤ X.heap.size) (hl : -9223372036854775808 ≤ left ∧ left ≤ 9223372036854775807) (hc : 0 ≤ count ∧ count ≤ 4611686018427387904) (hw : ws.length ≤ 1000000) :
    Calls Try.prog 29 #[(.pointer (some ⟨D, 0, none⟩)), .int .i64 f, .int .i64 at'] X (opPost f at' ⟨#[]⟩ true X B D vb vw lb ws left count down) := by
  have H : Hid (PD X B D vb vw lb ws left count down) := h
  have hlow := h.low
  clear h
  go_enter Try.func29, Try.ntmps29
  go_wp2_with fail
  refine (cbegin f at' ((⟨#[]⟩ : ByteArray).size : Int) X B D vb vw lb ws left count down H.out hl hc).mono ?_
  rintro e w1 h
  rcases h with ⟨ha, rfl, rfl⟩ | ⟨ha, h0, rfl, hP, hb⟩ | ⟨ha, h0, rfl, hP, hb⟩
  · have HA : Hid _ := ha
    have hz : ¬ askE f at' 0 down = 0 := ha
    clear ha
    go_wp2_with fail
    go_ret
    exact .inl ⟨HA.out, rfl, rfl⟩
  · have HA : Hid _ := ha
    have HP : Hid _ := hP
    have HBB : Hid _ := but_below hb hB hlow H.out.nf
    clear ha hP hb
    go_wp2_with fail
    go_ret
    exact .inr (.inl ⟨HA.out, h0, rfl, HP.out, HBB.out⟩)
  · have HA : Hid _ := ha
    have HP : Hid (PD w1 B D vb vw lb ws (decL left) (count + 1) down) := hP
    have hBB := but_below hb hB hlow H.out.nf
    have hB1 : B ≤ w1.heap.size := Nat.le_trans hB hBB.size
    have HBB : Hid _ := hBB
    obtain ⟨f', p, rfl, rfl, hf, hfit⟩ := ask_fits ha
    have hfit' : p + (⟨#[]⟩ : ByteArray).size ≤ 67108864 := by omega
    clear ha hP hb hBB
    rcases (show f' = 0 ∨ f' = 1 by omega) with rfl | rfl
    · go_wp2_with fail
      refine (cturn0 p ⟨#[]⟩ true hfit' (fun _ => rfl) w1 B D vb vw lb ws (decL left) (count + 1) down HP.out hB1 hw).mono ?_
      rintro e w2 ⟨rfl, ⟨v', vw', hQ⟩, hbb⟩
      have HQ : Hid _ := hQ
      have HB2 : Hid _ := HBB.out.trans hbb
      clear hQ hbb
      go_wp2_with fail
      go_ret
      exact .inr (.inr ⟨HA.out, h0, rfl, ⟨0, p, v', vw', rfl, rfl, by decide, HQ.out⟩, HB2.out⟩)
    · go_wp2_with fail
      refine (cturn1 p ⟨#[]⟩ true hfit' (fun _ => rfl) w1 B D vb vw lb ws (decL left) (count + 1) down HP.out hB1 hw).mono ?_
      rintro e w2 ⟨rfl, ⟨v', vw', hQ⟩, hbb⟩
      have HQ : Hid _ := hQ
      have HB2 : Hid _ := HBB.out.trans hbb
      clear hQ hbb
      go_wp2_with fail
      go_ret
      exact .inr (.inr ⟨HA.out, h0, rfl, ⟨1, p, v', vw', rfl, rfl, by decide, HQ.out⟩, HB2.out⟩)
end Go.Proofs.Ytfjkockcgddgbaa
