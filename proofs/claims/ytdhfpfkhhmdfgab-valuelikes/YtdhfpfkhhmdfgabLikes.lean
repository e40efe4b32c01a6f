/- The contract of relstorekeep.ValueLikes: it answers true for any two texts and any two patterns. -/
import Derived.Test.YtdhfpfkhhmdfgabLike2
namespace Go.Proofs.Ytdhfpfkhhmdfgab
open Go.RowKit
attribute [local go_sem ↓] Go.wp_at_zero Go.wp_at_succ

theorem L_app (a b : ByteArray) : L (a ++ b) = L a ++ L b := by simp [L, ByteArray.data_append]
theorem btrue {b : Bool} {P : Prop} (h : b = true ↔ P) (hp : P) : b = true := h.2 hp
theorem beq_iff {b c : Bool} {P : Prop} (h : b = true ↔ P) (h' : c = true ↔ P) : b = c := by
  cases b <;> cases c <;> simp_all
theorem L_empty (a : ByteArray) : (a.toList.isEmpty = true) ↔ L a = [] := by
  rw [ByteArray.toList_eq]; simp [L]
theorem L_eq (a p : ByteArray) : ((a.toList == p.toList) = true) ↔ L a = L p := by
  rw [ByteArray.toList_eq, ByteArray.toList_eq]; simp [L]

set_option maxRecDepth 100000 in
set_option maxHeartbeats 600000 in
theorem clikes (a b p q : ByteArray) (w : World) (ha : a.size ≤ 140737488351232) (hb : b.size ≤ 140737488351232) (hp : p.size ≤ 140737488351232) (hq : q.size ≤ 140737488351232) :
    Calls Try.prog 5 #[.string a, .string b, .string p, .string q] w fun e w' => e = .returned (.bool true) ∧ Below w.heap.size w w' := by
  have Ha : Hid (a.size ≤ 562949953421312) := (by omega : a.size ≤ 562949953421312)
  have Hb : Hid (b.size ≤ 562949953421312) := (by omega : b.size ≤ 562949953421312)
  have Hp : Hid (p.size ≤ 562949953421312) := (by omega : p.size ≤ 562949953421312)
  have Hq : Hid (q.size ≤ 562949953421312) := (by omega : q.size ≤ 562949953421312)
  have Hab : Hid ((a ++ b).size ≤ 562949953421312) := (by rw [ByteArray.size_append]; omega : (a ++ b).size ≤ 562949953421312)
  have Hpq : Hid ((p ++ q).size ≤ 562949953421312) := (by rw [ByteArray.size_append]; omega : (p ++ q).size ≤ 562949953421312)
  have Hp1 : Hid ((p ++ ⟨#[37]⟩).size ≤ 562949953421312) := (by rw [ByteArray.size_append]; show p.size + 1 ≤ _; omega : (p ++ ⟨#[37]⟩).size ≤ 562949953421312)
  have Hpsq : Hid ((p ++ ⟨#[37]⟩ ++ q).size ≤ 562949953421312) := (by rw [ByteArray.size_append, ByteArray.size_append]; show p.size + 1 + q.size ≤ _; omega : (p ++ ⟨#[37]⟩ ++ q).size ≤ 562949953421312)
  have r1 : ∀ X : World, (Op.stringOp .add a b).run Try.prog X = .ok (.string (a ++ b)) X := fun X => run_string_add_sum X a b (by omega)
  have r2 : ∀ X : World, (Op.stringOp .add p q).run Try.prog X = .ok (.string (p ++ q)) X := fun X => run_string_add_sum X p q (by omega)
  have r3 : ∀ X : World, (Op.stringOp .add p ⟨#[37]⟩).run Try.prog X = .ok (.string (p ++ ⟨#[37]⟩)) X := fun X => run_string_add_sum X p ⟨#[37]⟩ (by show p.size + 1 ≤ _; omega)
  have r4 : ∀ X : World, (Op.stringOp .add (p ++ ⟨#[37]⟩) q).run Try.prog X = .ok (.string (p ++ ⟨#[37]⟩ ++ q)) X := fun X => run_string_add_sum X _ q (by rw [ByteArray.size_append]; show p.size + 1 + q.size ≤ _; omega)
  clear ha hb hp hq
  go_enter Try.func5, Try.ntmps5
  go_upto_region 1 with fail
  go_cut [21] (fun x wx => x = .bool false ∧ Below w.heap.size w wx)
  case first =>
    go_wp2_with fail
    refine (cfits _ _ _ ?_ ?_).mono ?_
    · exact Ha.out
    · exact (by decide)
    rintro e w1 ⟨c, rfl, hc, hb1⟩
    obtain rfl : c = true := hc.2 (M_all _)
    clear hc
    go_wp2_with fail
    refine (cfits _ _ _ ?_ ?_).mono ?_
    · exact (by decide)
    · exact (by decide)
    rintro e w2 ⟨c, rfl, hc, hb2⟩
    obtain rfl : c = false := bfalse hc M_none
    clear hc
    go_wp2_with fail
    refine (cfits _ _ _ ?_ ?_).mono ?_
    · exact Ha.out
    · exact (by decide)
    rintro e w3 ⟨c, rfl, hc, hb3⟩
    have HB : Hid (Below w.heap.size w w3) := keepBelow (keepBelow hb1 hb2) hb3
    clear hb1 hb2 hb3
    by_cases h : L a = []
    · obtain rfl : c = false := bfalse (hc.trans (M_some _)) (fun q => q h)
      have he : a.toList.isEmpty = true := (L_empty a).2 h
      clear hc h
      go_wp2_with fail
      go_meet
      exact ⟨by simp, HB.out⟩
    · obtain rfl : c = true := hc.2 ((M_some _).2 h)
      have he : a.toList.isEmpty = false := bfalse (L_empty a) h
      clear hc h
      go_wp2_with fail
      go_meet
      exact ⟨by simp, HB.out⟩
  case rest =>
    obtain ⟨rfl, hB0⟩ := hcut
    go_upto_region 3 with fail
    go_cut [49] (fun x wx => x = .bool false ∧ Below w.heap.size w wx)
    case first =>
      go_wp2_with fail
      refine (cmarked p _ Hp.out).mono ?_
      rintro e w1 ⟨c, rfl, hc, rfl⟩
      cases c with
      | true =>
        clear hc
        go_wp2_with fail
        go_meet
        exact ⟨rfl, hB0⟩
      | false =>
        have HP : Hid (plain (L p)) := hc.1 rfl
        have HB0 : Hid _ := hB0
        clear hc hB0
        go_wp2_with fail
        refine (cfits _ _ _ ?_ ?_).mono ?_
        · exact Hp.out
        · exact Hp.out
        rintro e w1 ⟨c, rfl, hc, hb1⟩
        obtain rfl : c = true := hc.2 ((M_plain HP.out _).2 rfl)
        have HB1 : Hid (Below w.heap.size w w1) := keepBelow HB0.out hb1
        clear hc hb1 HB0
        go_wp2_with fail
        refine (cfits _ _ _ ?_ ?_).mono ?_
        · exact Ha.out
        · exact Hp.out
        rintro e w2 ⟨c, rfl, hc, hb2⟩
        have HB2 : Hid (Below w.heap.size w w2) := keepBelow HB1.out hb2
        have hd : (a.toList == p.toList) = c := beq_iff (L_eq a p) (hc.trans (M_plain HP.out _))
        clear hc hb2 HB1
        go_wp2_with fail
        refine (cfits _ _ _ ?_ ?_).mono ?_
        · exact Ha.out
        · exact Hp1.out
        rintro e w3 ⟨c3, rfl, hc3, hb3⟩
        have HB3 : Hid (Below w.heap.size w w3) := keepBelow HB2.out hb3
        rw [L_app, show L ⟨#[37]⟩ = [37] from rfl] at hc3
        have H3 : Hid _ := hc3.trans (M_starts HP.out _)
        clear hc3 hb3 HB2
        go_wp2_with fail
        refine (cstarts a p _).mono ?_
        rintro e w4 ⟨c4, rfl, hc4, rfl⟩
        obtain rfl : c3 = c4 := beq_iff H3.out hc4
        clear hc4 H3
        go_wp2_with fail
        go_meet
        exact ⟨by simp, HB3.out⟩
    case rest =>
      clear hB0
      obtain ⟨rfl, hB0⟩ := hcut
      have HB0 : Hid _ := hB0
      clear hB0
      go_wp2_with fail
      refine (cfits _ _ _ ?_ ?_).mono ?_
      · exact Ha.out
      · exact Hp.out
      rintro e w1 ⟨c, rfl, hc, hb1⟩
      have HB1 : Hid (Below w.heap.size w w1) := keepBelow HB0.out hb1
      clear hb1 HB0
      cases c with
      | false =>
        clear hc
        go_wp2
        go_ret
        exact ⟨rfl, HB1.out⟩
      | true =>
        have HM1 : Hid (M (L p) (L a)) := hc.1 rfl
        clear hc
        go_wp2_with fail
        refine (cfits _ _ _ ?_ ?_).mono ?_
        · exact Hb.out
        · exact Hq.out
        rintro e w2 ⟨c, rfl, hc, hb2⟩
        have HB2 : Hid (Below w.heap.size w w2) := keepBelow HB1.out hb2
        clear hb2 HB1
        cases c with
        | false =>
          clear hc
          go_wp2
          go_ret
          exact ⟨rfl, HB2.out⟩
        | true =>
          have HM2 : Hid (M (L q) (L b)) := hc.1 rfl
          clear hc
          go_wp2_with fail
          refine (cfits _ _ _ ?_ ?_).mono ?_
          · exact Hab.out
          · exact Hpq.out
          rintro e w3 ⟨c, rfl, hc, hb3⟩
          have HB3 : Hid (Below w.heap.size w w3) := keepBelow HB2.out hb3
          obtain rfl : c = true := hc.2 (by rw [L_app, L_app]; exact M_app HM1.out HM2.out)
          clear hc hb3 HB2
          go_wp2_with fail
          refine (cfits _ _ _ ?_ ?_).mono ?_
          · exact Hab.out
          · exact Hpsq.out
          rintro e w4 ⟨c, rfl, hc, hb4⟩
          have HB4 : Hid (Below w.heap.size w w4) := keepBelow HB3.out hb4
          obtain rfl : c = true := hc.2 (by rw [L_app, L_app, L_app]; exact M_app_star HM1.out HM2.out)
          clear hc hb4 HB3
          go_wp2
          go_ret
          exact ⟨rfl, HB4.out⟩
end Go.Proofs.Ytdhfpfkhhmdfgab
