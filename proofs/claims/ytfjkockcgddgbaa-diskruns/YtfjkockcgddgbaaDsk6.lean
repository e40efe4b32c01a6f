/- package disk: Size, Read -/
import Derived.Test.YtfjkockcgddgbaaDsk5
namespace Go.Proofs.Ytfjkockcgddgbaa
open Go.RowKit Go.Lib
attribute [local go_sem ↓] Go.wp_at_zero Go.wp_at_succ
theorem zero_text (X : World) (p : Option Addr) (c : Nat) : (convert 56 9 (.slice p 0 c)).run Try.prog X = .ok (.string ⟨#[]⟩) X := by
  cases p with
  | none => first | kernel_rfl | simp [convert, go_sem, Try.underlying56, Try.underlying5, Try.underlying9]
  | some a => exact run_convert_bytes_back (P := Try.prog) X 56 9 5 a c [] Try.underlying56 Try.underlying5 Try.underlying9 (fun j hj => absurd hj (by simp))
theorem sub_text {X : World} {base n cap g : Nat} {l : List UInt8} (h : X.ownsRow base 5 1 (.slice (some ⟨g, 0, none⟩) n cap) n (valsB l)) (at' m c : Nat) (hm : at' + m ≤ n) : (convert 56 9 (.slice (some ⟨g, at', none⟩) m c)).run Try.prog X = .ok (.string ⟨((l.drop at').take m).toArray⟩) X := by
  have hl : l.length = n := by have := h.1; simpa [valsB] using this
  have hlen : ((l.drop at').take m).length = m := by rw [List.length_take, List.length_drop]; omega
  have := run_convert_bytes_back (P := Try.prog) X 56 9 5 ⟨g, at', none⟩ c ((l.drop at').take m) Try.underlying56 Try.underlying5 Try.underlying9 (fun j hj => by
    rw [Addr.add_lit, h.cellAt (at' + j) (by omega)]
    have hj' : at' + j < l.length := by omega
    simp [valsB, List.getElem?_eq_getElem hj', List.getElem_take, List.getElem_drop])
  rw [hlen] at this
  exact this
/- what Size and Read answer -/
def sizV (f : Int) (lb : Nat → List UInt8) (down : Bool) : Int := if askE f 0 0 down = 0 then ((lb (2 * f.toNat)).length : Int) else 0
def rdE (f at' n : Int) (lb : Nat → List UInt8) (down : Bool) : Int := if askE f at' n down = 0 then (if ((lb (2 * f.toNat)).length : Int) < at' + n then 3 else 0) else askE f at' n down
def rdS (f at' n : Int) (lb : Nat → List UInt8) (down : Bool) : ByteArray := if rdE f at' n lb down = 0 then ⟨(((lb (2 * f.toNat)).drop at'.toNat).take n.toNat).toArray⟩ else ⟨#[]⟩
theorem ask_n {f at' n : Int} {down : Bool} (h : askE f at' n down = 0) : 0 ≤ n := by
  unfold askE at h
  split at h
  · rename_i hf
    unfold fitsD at hf
    have hf := of_decide_eq_true hf
    omega
  · cases h
set_option maxRecDepth 20000 in
set_option maxHeartbeats 1000000 in
theorem csize (f : Int) (X : World) (B D : Nat) (vb : Nat → Value) (vw : Value) (lb : Nat → List UInt8) (ws : List Chg) (left count : Int) (down : Bool) (h : PD X B D vb vw lb ws left count down) :
    Calls Try.prog 31 #[(.pointer (some ⟨D, 0, none⟩)), .int .i64 f] X fun e w' => e = .returned (.tuple #[.int .i64 (sizV f lb down), .int .i64 (askE f 0 0 down)]) ∧ w' = X := by
  have H : Hid (PD X B D vb vw lb ws left count down) := h
  obtain ⟨c0, c1, c2, c3, -⟩ := h.cells
  obtain ⟨a0, p0, e0, -⟩ := owns_sliceB (h.rows 0 (by decide))
  obtain ⟨a2, p2, e2, -⟩ := owns_sliceB (h.rows 2 (by decide))
  rw [e0] at c0
  rw [e2] at c2
  clear h
  by_cases ha : askE f 0 0 down = 0
  · have HA : Hid _ := ha
    obtain ⟨f', p, rfl, -, hf, -⟩ := ask_fits ha
    have e9 : sizV f' lb down = ((lb (2 * f')).length : Int) := by unfold sizV; rw [if_pos ha, Int.toNat_natCast]
    rw [e9, ha]
    clear ha e9
    rcases (show f' = 0 ∨ f' = 1 by omega) with rfl | rfl
    · have hA : askE 0 0 0 down = 0 := HA.out
      go_enter Try.func31, Try.ntmps31
      go_wp2_with fail
      refine (casked 0 0 0 X B D vb vw lb ws left count down H.out).mono ?_
      rintro e w' ⟨rfl, rfl⟩
      rw [hA]
      go_wp2_with fail
      go_ret2
      exact ⟨rfl, rfl⟩
    · have hA : askE 1 0 0 down = 0 := HA.out
      go_enter Try.func31, Try.ntmps31
      go_wp2_with fail
      refine (casked 1 0 0 X B D vb vw lb ws left count down H.out).mono ?_
      rintro e w' ⟨rfl, rfl⟩
      rw [hA]
      go_wp2_with fail
      go_ret2
      exact ⟨rfl, rfl⟩
  · have e9 : sizV f lb down = 0 := by unfold sizV; rw [if_neg ha]
    rw [e9]
    clear e9
    go_enter Try.func31, Try.ntmps31
    go_wp2_with fail
    refine (casked f 0 0 X B D vb vw lb ws left count down H.out).mono ?_
    rintro e w' ⟨rfl, rfl⟩
    go_wp2_with fail
    go_ret2
    exact ⟨rfl, rfl⟩
set_option maxRecDepth 20000 in
set_option maxHeartbeats 1000000 in
theorem cread (f at' n : Int) (X : World) (B D : Nat) (vb : Nat → Value) (vw : Value) (lb : Nat → List UInt8) (ws : List Chg) (left count : Int) (down : Bool) (h : PD X B D vb vw lb ws left count down) :
    Calls Try.prog 24 #[(.pointer (some ⟨D, 0, none⟩)), .int .i64 f, .int .i64 at', .int .i64 n] X fun e w' => e = .returned (.tuple #[.string (rdS f at' n lb down), .int .i64 (rdE f at' n lb down)]) ∧ w' = X := by
  have H : Hid (PD X B D vb vw lb ws left count down) := h
  obtain ⟨c0, c1, c2, c3, -⟩ := h.cells
  obtain ⟨a0, p0, e0, q0⟩ := owns_sliceB (h.rows 0 (by decide))
  obtain ⟨a2, p2, e2, q2⟩ := owns_sliceB (h.rows 2 (by decide))
  have hs0 := h.size 0 (by decide)
  have hs2 := h.size 2 (by decide)
  have O0 : Hid _ := e0 ▸ h.rows 0 (by decide)
  have O2 : Hid _ := e2 ▸ h.rows 2 (by decide)
  rw [e0] at c0
  rw [e2] at c2
  clear h e0 e2
  by_cases ha : askE f at' n down = 0
  · have HA : Hid _ := ha
    have hn0 := ask_n ha
    obtain ⟨f', p, rfl, rfl, hf, hfit⟩ := ask_fits ha
    obtain ⟨m, rfl⟩ : ∃ m : Nat, n = m := ⟨n.toNat, by omega⟩
    have e9 : rdE f' p m lb down = if ((lb (2 * f')).length : Int) < (p : Int) + m then 3 else 0 := by unfold rdE; rw [if_pos ha, Int.toNat_natCast]
    have e8 : rdS f' p m lb down = if ((lb (2 * f')).length : Int) < (p : Int) + m then ⟨#[]⟩ else ⟨(((lb (2 * f')).drop p).take m).toArray⟩ := by
      unfold rdS
      rw [e9]
      by_cases hlt : ((lb (2 * f')).length : Int) < (p : Int) + m
      · rw [if_pos hlt, if_neg (by decide), if_pos hlt]
      · rw [if_neg hlt, if_pos rfl, if_neg hlt, Int.toNat_natCast, Int.toNat_natCast, Int.toNat_natCast]
    rw [e9, e8]
    clear ha e9 e8
    rcases (show f' = 0 ∨ f' = 1 by omega) with rfl | rfl
    · have hA : askE 0 p m down = 0 := HA.out
      show Calls _ _ #[_, .int .i64 0, _, _] _ _
      rw [show 2 * 0 = 0 from rfl]
      by_cases hlt : (lb 0).length < p + m
      · have hlt' : ((lb 0).length : Int) < (p : Int) + m := by omega
        rw [if_pos hlt', if_pos hlt']
        go_enter Try.func24, Try.ntmps24
        go_wp2_with fail
        refine (casked 0 p m X B D vb vw lb ws left count down H.out).mono ?_
        rintro e w' ⟨rfl, rfl⟩
        rw [hA]
        go_wp2_with fail
        go_ret2
        exact ⟨rfl, rfl⟩
      · have hlt' : ¬ ((lb 0).length : Int) < (p : Int) + m := by omega
        rw [if_neg hlt', if_neg hlt']
        have k1 : (0 : Int) ≤ (p : Int) := by omega
        have k2 : (p : Int) ≤ (p : Int) + m := by omega
        have k3 : (p : Int) + m ≤ (p0 : Int) := by omega
        by_cases hm : m = 0
        · subst hm
          have hcv := zero_text X
          rw [show (((lb 0).drop p).take 0).toArray = #[] from rfl]
          rcases Decidable.em (p = p0) with rfl | hpe
          all_goals
            go_enter Try.func24, Try.ntmps24
            go_wp2_with fail
            refine (casked 0 p 0 X B D vb vw lb ws left count down H.out).mono ?_
            rintro e w' ⟨rfl, rfl⟩
            first | rw [hA] | (rw [show askE 0 p 0 down = 0 from HA.out])
            go_wp2_with fail
            go_ret2
            exact ⟨rfl, rfl⟩
        · obtain ⟨g, cap', ee, _, _⟩ := World.ownsRow.form O0.out (by omega)
          injection ee with ee1 ee2 ee3
          subst ee1 ee3
          have hcv := sub_text O0.out p m (p0 - p) (by omega)
          have hpe : ¬ p = p0 := by omega
          go_enter Try.func24, Try.ntmps24
          go_wp2_with fail
          refine (casked 0 p m X B D vb vw lb ws left count down H.out).mono ?_
          rintro e w' ⟨rfl, rfl⟩
          rw [hA]
          go_wp2_with fail
          go_ret2
          exact ⟨rfl, rfl⟩
    · have hA : askE 1 p m down = 0 := HA.out
      show Calls _ _ #[_, .int .i64 1, _, _] _ _
      rw [show 2 * 1 = 2 from rfl]
      by_cases hlt : (lb 2).length < p + m
      · have hlt' : ((lb 2).length : Int) < (p : Int) + m := by omega
        rw [if_pos hlt', if_pos hlt']
        go_enter Try.func24, Try.ntmps24
        go_wp2_with fail
        refine (casked 1 p m X B D vb vw lb ws left count down H.out).mono ?_
        rintro e w' ⟨rfl, rfl⟩
        rw [hA]
        go_wp2_with fail
        go_ret2
        exact ⟨rfl, rfl⟩
      · have hlt' : ¬ ((lb 2).length : Int) < (p : Int) + m := by omega
        rw [if_neg hlt', if_neg hlt']
        have k1 : (0 : Int) ≤ (p : Int) := by omega
        have k2 : (p : Int) ≤ (p : Int) + m := by omega
        have k3 : (p : Int) + m ≤ (p2 : Int) := by omega
        by_cases hm : m = 0
        · subst hm
          have hcv := zero_text X
          rw [show (((lb 2).drop p).take 0).toArray = #[] from rfl]
          rcases Decidable.em (p = p2) with rfl | hpe
          all_goals
            go_enter Try.func24, Try.ntmps24
            go_wp2_with fail
            refine (casked 1 p 0 X B D vb vw lb ws left count down H.out).mono ?_
            rintro e w' ⟨rfl, rfl⟩
            first | rw [hA] | (rw [show askE 1 p 0 down = 0 from HA.out])
            go_wp2_with fail
            go_ret2
            exact ⟨rfl, rfl⟩
        · obtain ⟨g, cap', ee, _, _⟩ := World.ownsRow.form O2.out (by omega)
          injection ee with ee1 ee2 ee3
          subst ee1 ee3
          have hcv := sub_text O2.out p m (p2 - p) (by omega)
          have hpe : ¬ p = p2 := by omega
          go_enter Try.func24, Try.ntmps24
          go_wp2_with fail
          refine (casked 1 p m X B D vb vw lb ws left count down H.out).mono ?_
          rintro e w' ⟨rfl, rfl⟩
          rw [hA]
          go_wp2_with fail
          go_ret2
          exact ⟨rfl, rfl⟩
  · have e9 : rdE f at' n lb down = askE f at' n down := by unfold rdE; rw [if_neg ha]
    have e8 : rdS f at' n lb down = ⟨#[]⟩ := by unfold rdS; rw [e9, if_neg ha]
    rw [e9, e8]
    clear e9 e8
    go_enter Try.func24, Try.ntmps24
    go_wp2_with fail
    refine (casked f at' n X B D vb vw lb ws left count down H.out).mono ?_
    rintro e w' ⟨rfl, rfl⟩
    go_wp2_with fail
    go_ret2
    exact ⟨rfl, rfl⟩
end Go.Proofs.Ytfjkockcgddgbaa
