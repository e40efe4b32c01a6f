/- package relstorekeep: has -/
import Derived.Test.YtfjkockcgddgbaaWalG
import Derived.Test.YtfjkockcgddgbaaWalD
import Derived.Test.YtfjkockcgddgbaaWalC
namespace Go.Proofs.Ytfjkockcgddgbaa
open Go.RowKit Go.Lib Go.Maps Go.Sort Go.Shelf
attribute [local go_sem ↓] Go.wp_at_zero Go.wp_at_succ
/- page n of the log is as the map says -/
def hasA (L : LS) (S : DS) (F : Int → Option ByteArray) (n : Int) : Bool :=
  match F n with
  | some t => decide ((rdL L S n).2 = 0 ∧ (rdL L S n).1 = t)
  | none => decide ((rdL L S n).2 = 0 → (rdL L S n).1 = ⟨blank.toArray⟩)
theorem str_ne {a b : ByteArray} (h : ¬ a = b) : (a.toList == b.toList) = false := by
  rw [beq_eq_false_iff_ne]
  intro e
  apply h
  rw [Lib.toList_data, Lib.toList_data] at e
  exact ByteArray.ext (Array.toList_inj.1 e)
theorem has_more {L : LS} {S : DS} {F : Int → Option ByteArray} {i : Nat} (h : ∀ j < i, hasA L S F j = true) (hi : hasA L S F i = true) : ∀ j < i + 1, hasA L S F j = true := fun j hj => by
  by_cases e : j = i
  · subst e; exact hi
  · exact h j (by omega)
theorem has_less {L : LS} {S : DS} {F : Int → Option ByteArray} {i : Nat} (hlt : i < 6) (hi : hasA L S F i = false) : ((List.range 6).all fun n => hasA L S F n) = false := by
  rw [List.all_eq_false]
  exact ⟨i, List.mem_range.2 hlt, by simp [hi]⟩
set_option maxRecDepth 20000 in
set_option maxHeartbeats 1000000 in
theorem chas (X : World) (B D G bp bf m b N : Nat) (L : LS) (S : DS) (F : Int → Option ByteArray) (h : PL X B D G bp bf m L S) (hM : MS X b N F) (hp : okM L.pl) (hf : okM L.fh) :
    Calls Try.prog 23 #[(.pointer (some ⟨G, 0, none⟩)), .map (some b)] X fun e w' => e = .returned (.bool ((List.range 6).all fun n => hasA L S F n)) ∧ Below X.heap.size X w' := by
  have HP : Hid (PL X B D G bp bf m L S) := h
  have HM : Hid (MS X b N F) := hM
  have HK : Hid (okM L.pl ∧ okM L.fh) := (⟨hp, hf⟩ : okM L.pl ∧ okM L.fh)
  clear h hM hp hf
  go_enter Try.func23, Try.ntmps23
  go_wp2_with fail
  go_loopw [5] (fun u Y => ∃ i : Nat, u = .int .i64 i ∧ i ≤ 6 ∧ Hid (∀ j < i, hasA L S F j = true) ∧ Hid (Below X.heap.size X Y)) (fun u _ => 6 - (intOf u).toNat)
  case atStart => exact ⟨0, rfl, Nat.zero_le _, (fun j hj => absurd hj (Nat.not_lt_zero j)), Below.refl _ _⟩
  case round =>
    obtain ⟨i, rfl, hi, HA, HB⟩ := hrel
    by_cases hlt : i < 6
    · have k1 : (i : Int) < 6 := by omega
      have hx : i64 (i : Int) := i64_in (by omega) (by omega)
      have hlk := (HM.out.keep (HB.out.block b HM.out.lt)).look hx
      obtain ⟨s, e, hr⟩ : ∃ s e, rdL L S i = (s, e) := ⟨_, _, rfl⟩
      have hmk := makeB
      have HAi : Hid (hasA L S F i = match F i with | some t => decide (e = 0 ∧ s = t) | none => decide (e = 0 → s = ⟨blank.toArray⟩)) := by
        show hasA L S F i = _
        unfold hasA
        rw [hr]
      have HR : Hid (rdL L S i = (s, e)) := hr
      clear hr
      cases hF : F i with
      | none =>
        rw [hF] at hlk HAi
        simp only [Option.getD, Option.isSome] at hlk
        go_wp2_with fail
        refine (creadL i _ B D G bp bf m L S (HP.out.below HB.out) HK.out.1 HK.out.2).mono ?_
        rw [HR.out]
        rintro e1 w1 ⟨rfl, hb1⟩
        have HB1 : Hid (Below X.heap.size X w1) := keepBelow HB.out hb1
        clear hb1
        by_cases he : e = 0
        · subst he
          have HB2 : Hid (Below X.heap.size X (w1.alloc (.cells (valsB blank).toArray 5))) := HB1.out.alloc HB1.out.size _
          have HPg : Hid (Pg (w1.alloc (.cells (valsB blank).toArray 5)) w1.heap.size blank) := ⟨blank_len, heap_alloc_new w1 _⟩
          have ht := HPg.out.text
          obtain ⟨bl, hbl⟩ : ∃ bl : ByteArray, bl = ⟨blank.toArray⟩ := ⟨_, rfl⟩
          rw [← hbl] at ht HAi
          by_cases hs : s = bl
          · have HA1 : Hid (∀ j < i + 1, hasA L S F j = true) := has_more HA.out (by rw [HAi.out]; simp [hs])
            clear hbl
            subst hs
            have hz : (s.toList == s.toList) = true := by simp
            go_wp2
            go_roundw
            case rel => exact ⟨i + 1, by go_num, by omega, HA1, HB2⟩
            case measure => simp [intOf]; omega
          · have HN : Hid (((List.range 6).all fun n => hasA L S F n) = false) := has_less hlt (by rw [HAi.out]; simp [hs])
            have hz : (s.toList == bl.toList) = false := str_ne hs
            clear hbl
            go_wp2
            go_ret
            exact ⟨by rw [HN.out]; rfl, HB2.out⟩
        · have hz : (e == 0) = false := by simpa using he
          have HA1 : Hid (∀ j < i + 1, hasA L S F j = true) := has_more HA.out (by rw [HAi.out]; simp [he])
          go_wp2
          go_roundw
          case rel => exact ⟨i + 1, by go_num, by omega, HA1, HB1⟩
          case measure => simp [intOf]; omega
      | some t =>
        rw [hF] at hlk HAi
        simp only [Option.getD, Option.isSome] at hlk
        go_wp2_with fail
        refine (creadL i _ B D G bp bf m L S (HP.out.below HB.out) HK.out.1 HK.out.2).mono ?_
        rw [HR.out]
        rintro e1 w1 ⟨rfl, hb1⟩
        have HB1 : Hid (Below X.heap.size X w1) := keepBelow HB.out hb1
        clear hb1
        by_cases he : e = 0
        · subst he
          by_cases hs : s = t
          · subst hs
            have HA1 : Hid (∀ j < i + 1, hasA L S F j = true) := has_more HA.out (by rw [HAi.out]; simp)
            go_wp2
            go_roundw
            case rel => exact ⟨i + 1, by go_num, by omega, HA1, HB1⟩
            case measure => simp [intOf]; omega
          · have hz : (s.toList == t.toList) = false := str_ne hs
            have HN : Hid (((List.range 6).all fun n => hasA L S F n) = false) := has_less hlt (by rw [HAi.out]; simp [hs])
            go_wp2
            go_ret
            exact ⟨by rw [HN.out]; rfl, HB1.out⟩
        · have hz : (e == 0) = false := by simpa using he
          have HN : Hid (((List.range 6).all fun n => hasA L S F n) = false) := has_less hlt (by rw [HAi.out]; simp [he])
          go_wp2
          go_ret
          exact ⟨by rw [HN.out]; rfl, HB1.out⟩
    · obtain rfl : i = 6 := by omega
      have HY : Hid (((List.range 6).all fun n => hasA L S F n) = true) := by
        show _ = true
        rw [List.all_eq_true]
        exact fun x hx => HA.out x (List.mem_range.1 hx)
      go_wp2
      go_ret
      exact ⟨by rw [HY.out]; rfl, HB.out⟩
end Go.Proofs.Ytfjkockcgddgbaa
