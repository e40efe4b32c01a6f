/- relstoreref's disk: Read, Size -/
import Derived.Test.YtfjkockcgddgbaaDskV
namespace Go.Proofs.Ytfjkockcgddgbaa
open Go.RowKit Go.Lib
attribute [local go_sem ↓] Go.wp_at_zero Go.wp_at_succ
/- the bytes of both files as they are seen, in the places that the program's disk has them -/
def seesD (lb : Nat → List UInt8) (l0 l1 : ByteArray) (ws : List Chg) : Prop := lb 0 = foldF 0 ws (ll l0) ∧ lb 2 = foldF 1 ws (ll l1)
theorem rseen (f : Nat) (hf : f < 2) (X : World) (B D : Nat) (l0 l1 : ByteArray) (vw : Value) (ws : List Chg) (left count : Int) (down : Bool) (h : RD X B D l0 l1 vw ws left count down) (hw : ws.length ≤ 1000000) (lb : Nat → List UInt8) (hs : seesD lb l0 l1 ws) :
    Calls Try.prog 40 #[(.pointer (some ⟨D, 0, none⟩)), .int .i64 (f : Int)] X fun e w' => ∃ y : ByteArray, e = .returned (.string y) ∧ ll y = lb (2 * f) ∧ Below X.heap.size X w' := by
  rcases (show f = 0 ∨ f = 1 by omega) with rfl | rfl
  · exact (rseen0 X B D l0 l1 vw ws left count down h hw).mono fun e w' hh => ⟨_, hh.1, hs.1.symm, hh.2⟩
  · exact (rseen1 X B D l0 l1 vw ws left count down h hw).mono fun e w' hh => ⟨_, hh.1, hs.2.symm, hh.2⟩
set_option maxRecDepth 20000 in
set_option maxHeartbeats 1000000 in
theorem rread (f at' n : Int) (X : World) (B D : Nat) (l0 l1 : ByteArray) (vw : Value) (ws : List Chg) (left count : Int) (down : Bool) (h : RD X B D l0 l1 vw ws left count down) (hw : ws.length ≤ 1000000) (lb : Nat → List UInt8) (hs : seesD lb l0 l1 ws) :
    Calls Try.prog 25 #[(.pointer (some ⟨D, 0, none⟩)), .int .i64 f, .int .i64 at', .int .i64 n] X fun e w' => e = .returned (.tuple #[.string (rdS f at' n lb down), .int .i64 (rdE f at' n lb down)]) ∧ Below X.heap.size X w' := by
  have H : Hid (RD X B D l0 l1 vw ws left count down) := h
  have HS : Hid _ := hs
  obtain ⟨c0, c1, c2, c3, c4, c5⟩ := h.cells
  clear h hs
  by_cases hf : fitsD f at' n = true
  · obtain ⟨f', p, rfl, rfl, hf2, hp, hn⟩ := fits_nat hf
    obtain ⟨m, rfl⟩ : ∃ m : Nat, n = m := ⟨n.toNat, by omega⟩
    have HF : Hid _ := hf
    cases down
    · have ea : askE f' p m false = 0 := by unfold askE; rw [hf]; rfl
      have e9 : rdE f' p m lb false = if ((lb (2 * f')).length : Int) < (p : Int) + m then 3 else 0 := by unfold rdE; rw [if_pos ea]; rfl
      have e8 : rdS f' p m lb false = if ((lb (2 * f')).length : Int) < (p : Int) + m then ⟨#[]⟩ else ⟨(((lb (2 * f')).drop p).take m).toArray⟩ := by
        unfold rdS; rw [e9]
        by_cases hlt : ((lb (2 * f')).length : Int) < (p : Int) + m
        · rw [if_pos hlt, if_pos hlt]; rfl
        · rw [if_neg hlt, if_neg hlt]; rfl
      rw [e9, e8]
      clear e9 e8 ea hf
      by_cases hlt : ((lb (2 * f')).length : Int) < (p : Int) + m
      · rw [if_pos hlt, if_pos hlt]
        have HL : Hid _ := hlt
        clear hlt
        go_enter Try.func25, Try.ntmps25
        go_wp2_with fail
        refine (rfits f' p m X).mono ?_
        rintro e w ⟨rfl, rfl⟩
        rw [HF.out]
        go_wp2_with fail
        refine (rseen f' hf2 w B D l0 l1 vw ws left count false H.out hw lb HS.out).mono ?_
        rintro e w2 ⟨y, rfl, hy, hb⟩
        have HB : Hid _ := hb
        have k1 : (y.size : Int) < (p : Int) + m := by have := HL.out; rw [← hy, ll_len] at this; exact this
        clear hb hy
        go_wp2_with fail
        go_ret2
        exact ⟨rfl, HB.out⟩
      · rw [if_neg hlt, if_neg hlt]
        have HL : Hid _ := hlt
        have HE : Hid (∀ y : ByteArray, ll y = lb (2 * f') → (⟨(((lb (2 * f')).drop p).take m).toArray⟩ : ByteArray) = y.extract p (p + m)) := fun y hy => by
          apply ll_inj
          rw [ll_extract, hy]
          show ((lb (2 * f')).drop p).take m = _
          rw [List.drop_take, Nat.add_sub_cancel_left]
        clear hlt
        generalize (⟨(((lb (2 * f')).drop p).take m).toArray⟩ : ByteArray) = z at *
        go_enter Try.func25, Try.ntmps25
        go_wp2_with fail
        refine (rfits f' p m X).mono ?_
        rintro e w ⟨rfl, rfl⟩
        rw [HF.out]
        go_wp2_with fail
        refine (rseen f' hf2 w B D l0 l1 vw ws left count false H.out hw lb HS.out).mono ?_
        rintro e w2 ⟨y, rfl, hy, hb⟩
        have HB : Hid _ := hb
        have k3 : (p : Int) + m ≤ (y.size : Int) := by have := Int.not_lt.1 HL.out; rw [← hy, ll_len] at this; exact this
        have k1 : (0 : Int) ≤ (p : Int) := by omega
        have k2 : (p : Int) ≤ (p : Int) + m := by omega
        have k4 : ¬ (y.size : Int) < (p : Int) + m := by omega
        have HZ : Hid _ := HE.out y hy
        clear hb hy
        go_wp2_with fail
        go_ret2
        exact ⟨by rw [HZ.out]; rfl, HB.out⟩
    · have ea : askE f' p m true = 2 := by unfold askE; rw [hf]; rfl
      have e9 : rdE f' p m lb true = 2 := by unfold rdE; rw [ea]; rfl
      have e8 : rdS f' p m lb true = ⟨#[]⟩ := by unfold rdS; rw [e9]; rfl
      rw [e9, e8]
      clear e9 e8 ea hf
      go_enter Try.func25, Try.ntmps25
      go_wp2_with fail
      refine (rfits f' p m X).mono ?_
      rintro e w ⟨rfl, rfl⟩
      rw [HF.out]
      go_wp2_with fail
      go_ret2
      exact ⟨rfl, Below.refl _ _⟩
  · have hf' : fitsD f at' n = false := by simpa using hf
    have ea : askE f at' n down = 1 := by unfold askE; rw [hf']; rfl
    have e9 : rdE f at' n lb down = 1 := by unfold rdE; rw [ea]; rfl
    have e8 : rdS f at' n lb down = ⟨#[]⟩ := by unfold rdS; rw [e9]; rfl
    rw [e9, e8]
    have HF : Hid _ := hf'
    clear e9 e8 ea hf hf'
    go_enter Try.func25, Try.ntmps25
    go_wp2_with fail
    refine (rfits f at' n X).mono ?_
    rintro e w ⟨rfl, rfl⟩
    rw [HF.out]
    go_wp2_with fail
    go_ret2
    exact ⟨rfl, Below.refl _ _⟩
theorem in_fits (f : Int) : (decide (0 ≤ f) && decide (f ≤ 1)) = fitsD f 0 0 := by
  unfold fitsD
  rw [← Bool.decide_and]
  apply decide_eq_decide.2
  omega
set_option maxRecDepth 20000 in
set_option maxHeartbeats 1000000 in
theorem rsize (f : Int) (X : World) (B D : Nat) (l0 l1 : ByteArray) (vw : Value) (ws : List Chg) (left count : Int) (down : Bool) (h : RD X B D l0 l1 vw ws left count down) (hw : ws.length ≤ 1000000) (lb : Nat → List UInt8) (hs : seesD lb l0 l1 ws) :
    Calls Try.prog 32 #[(.pointer (some ⟨D, 0, none⟩)), .int .i64 f] X fun e w' => e = .returned (.tuple #[.int .i64 (sizV f lb down), .int .i64 (askE f 0 0 down)]) ∧ Below X.heap.size X w' := by
  have H : Hid (RD X B D l0 l1 vw ws left count down) := h
  have HS : Hid _ := hs
  obtain ⟨c0, c1, c2, c3, c4, c5⟩ := h.cells
  clear h hs
  by_cases hf : fitsD f 0 0 = true
  · obtain ⟨f', p, rfl, -, hf2, -, -⟩ := fits_nat hf
    have HF : Hid _ := (in_fits f').trans hf
    cases down
    · have ea : askE f' 0 0 false = 0 := by unfold askE; rw [hf]; rfl
      have e9 : sizV f' lb false = ((lb (2 * f')).length : Int) := by unfold sizV; rw [if_pos ea]; rfl
      rw [e9, ea]
      clear e9 ea hf
      go_enter Try.func32, Try.ntmps32
      go_wp2_with fail
      refine (rin f' 0 1 X).mono ?_
      rintro e w ⟨rfl, rfl⟩
      rw [HF.out]
      go_wp2_with fail
      refine (rseen f' hf2 w B D l0 l1 vw ws left count false H.out hw lb HS.out).mono ?_
      rintro e w2 ⟨y, rfl, hy, hb⟩
      have HB : Hid _ := hb
      have HL : Hid ((lb (2 * f')).length = y.size) := by show (lb (2 * f')).length = y.size; rw [← hy, ll_len]
      clear hb hy
      go_wp2_with fail
      go_ret2
      exact ⟨by rw [HL.out]; rfl, HB.out⟩
    · have ea : askE f' 0 0 true = 2 := by unfold askE; rw [hf]; rfl
      have e9 : sizV f' lb true = 0 := by unfold sizV; rw [ea]; rfl
      rw [e9, ea]
      clear e9 ea hf
      go_enter Try.func32, Try.ntmps32
      go_wp2_with fail
      refine (rin f' 0 1 X).mono ?_
      rintro e w ⟨rfl, rfl⟩
      rw [HF.out]
      go_wp2_with fail
      go_ret2
      exact ⟨rfl, Below.refl _ _⟩
  · have hf' : fitsD f 0 0 = false := by simpa using hf
    have ea : askE f 0 0 down = 1 := by unfold askE; rw [hf']; rfl
    have e9 : sizV f lb down = 0 := by unfold sizV; rw [ea]; rfl
    rw [e9, ea]
    have HF : Hid _ := (in_fits f).trans hf'
    clear e9 ea hf hf'
    go_enter Try.func32, Try.ntmps32
    go_wp2_with fail
    refine (rin f 0 1 X).mono ?_
    rintro e w ⟨rfl, rfl⟩
    rw [HF.out]
    go_wp2_with fail
    go_ret2
    exact ⟨rfl, Below.refl _ _⟩
end Go.Proofs.Ytfjkockcgddgbaa
