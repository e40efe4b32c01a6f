/- The contract of relstorelaw.ValueTexts: it answers true for any two values and any kind -/
import Derived.Test.YtmkfkjicfmllmaaDoorTxt7
import Derived.Test.YtmkfkjicfmllmaaDoorTxt8
namespace Go.Proofs.YtmkfkjicfmllmaaDoor
open Go.RowKit
attribute [local go_sem ↓] Go.wp_at_zero Go.wp_at_succ
set_option maxHeartbeats 1000000 in
theorem tsame (k n : Int) (s : ByteArray) (w : World) : Calls Tryd.prog 4 #[(.agg #[.int .i64 (k), .int .i64 (n), .string (s)]), (.agg #[.int .i64 (k), .int .i64 (n), .string (s)])] w fun e w' => e = .returned (.bool true) ∧ Below w.heap.size w w' := by
  go_enter Tryd.func4, Tryd.ntmps4
  go_wp2
  go_ret
  exact ⟨rfl, (((Below.refl _ _).alloc (Nat.le_refl _) _).alloc (by simp) _)⟩
theorem conc_form (k : Int) (s : ByteArray) (k' : Int) (s' : ByteArray) : ∃ x y z, conc k s k' s' = (.agg #[.int .i64 (x), .int .i64 (y), .string (z)]) := by
  unfold conc
  split <;> exact ⟨_, _, _, rfl⟩
theorem likeV_form (b : Bool) (k k' : Int) : ∃ x y z, likeV b k k' = (.agg #[.int .i64 (x), .int .i64 (y), .string (z)]) := by
  unfold likeV
  split <;> exact ⟨_, _, _, rfl⟩
theorem castV_form (k n : Int) (s : ByteArray) (kind : Int) : ∃ x y z, castV k n s kind = (.agg #[.int .i64 (x), .int .i64 (y), .string (z)]) := by
  obtain ⟨a, b, h⟩ := truV_form s
  obtain ⟨c, d, h'⟩ := wv_form s
  unfold castV
  rw [h, h']
  (repeat' split) <;> exact ⟨_, _, _, rfl⟩
set_option maxRecDepth 100000 in
set_option maxHeartbeats 4000000 in
theorem ltexts (k n : Int) (s : ByteArray) (k' n' : Int) (s' : ByteArray) (kind : Int) (w : World) (hn : -9223372036854775808 ≤ n ∧ n ≤ 9223372036854775807) (hs : s.size ≤ 1048576) (hs' : s'.size ≤ 1048576) (hv : Vs w) :
    Calls Tryd.prog 3 #[(.agg #[.int .i64 (k), .int .i64 (n), .string (s)]), (.agg #[.int .i64 (k'), .int .i64 (n'), .string (s')]), .int .i64 kind] w fun e w' => e = .returned (.bool true) ∧ Below w.heap.size w w' := by
  obtain ⟨b, hb⟩ : ∃ b : Bool, b = true ↔ M (L s') (L s) := by
    by_cases h : M (L s') (L s)
    · exact ⟨true, fun _ => h, fun _ => rfl⟩
    · exact ⟨false, fun e => (by cases e), fun e => absurd e h⟩
  obtain ⟨c0, c1, c2, hc⟩ := conc_form k s k' s'
  obtain ⟨l0, l1, l2, hl⟩ := likeV_form b k k'
  obtain ⟨x0, x1, x2, hx⟩ := castV_form k n s kind
  have C1 : Hid (∀ X, Calls Tryd.prog 5 #[(.agg #[.int .i64 (k), .int .i64 (n), .string (s)]), (.agg #[.int .i64 (k'), .int .i64 (n'), .string (s')])] X fun e w' => e = .returned (.agg #[.int .i64 (c0), .int .i64 (c1), .string (c2)]) ∧ Below X.heap.size X w') := fun X => by
    have := vconcat k n s k' n' s' X (by omega) (by omega)
    rwa [hc] at this
  have C2 : Hid (∀ X, Calls Tryd.prog 6 #[(.agg #[.int .i64 (k), .int .i64 (n), .string (s)]), (.agg #[.int .i64 (k'), .int .i64 (n'), .string (s')])] X fun e w' => e = .returned (.agg #[.int .i64 (c0), .int .i64 (c1), .string (c2)]) ∧ Below X.heap.size X w') := fun X => by
    have := rconcat k n s k' n' s' X (by omega) (by omega)
    rwa [hc] at this
  have L1 : Hid (∀ X, Calls Tryd.prog 7 #[(.agg #[.int .i64 (k), .int .i64 (n), .string (s)]), (.agg #[.int .i64 (k'), .int .i64 (n'), .string (s')])] X fun e w' => e = .returned (.agg #[.int .i64 (l0), .int .i64 (l1), .string (l2)]) ∧ Below X.heap.size X w') := fun X => by
    have := vlikeV b k n s k' n' s' X hb hs hs'
    rwa [hl] at this
  have L2 : Hid (∀ X, Calls Tryd.prog 8 #[(.agg #[.int .i64 (k), .int .i64 (n), .string (s)]), (.agg #[.int .i64 (k'), .int .i64 (n'), .string (s')])] X fun e w' => e = .returned (.agg #[.int .i64 (l0), .int .i64 (l1), .string (l2)]) ∧ Below X.heap.size X w') := fun X => by
    have := rlikeV b k n s k' n' s' X hb hs hs'
    rwa [hl] at this
  have X1 : Hid (∀ X, Below w.heap.size w X → Calls Tryd.prog 9 #[(.agg #[.int .i64 (k), .int .i64 (n), .string (s)]), .int .i64 kind] X fun e w' => e = .returned (.agg #[.int .i64 (x0), .int .i64 (x1), .string (x2)]) ∧ Below X.heap.size X w') := fun X hX => by
    have := vcast k n s kind X hn hs (hv.below hX)
    rwa [hx] at this
  have X2 : Hid (∀ X, Below w.heap.size w X → Calls Tryd.prog 10 #[(.agg #[.int .i64 (k), .int .i64 (n), .string (s)]), .int .i64 kind] X fun e w' => e = .returned (.agg #[.int .i64 (x0), .int .i64 (x1), .string (x2)]) ∧ Below X.heap.size X w') := fun X hX => by
    have := rcast k n s kind X hn hs (hv.below hX)
    rwa [hx] at this
  obtain ⟨sh, hsh⟩ : ∃ sh, sh = showS k n s := ⟨_, rfl⟩
  have S1 : Hid (∀ X, Below w.heap.size w X → Calls Tryd.prog 11 #[(.agg #[.int .i64 (k), .int .i64 (n), .string (s)])] X fun e w' => e = .returned (.string sh) ∧ Below X.heap.size X w') := fun X hX => by
    rw [hsh]
    exact vshow k n s X hn (hv.below hX)
  have S2 : Hid (∀ X, Below w.heap.size w X → Calls Tryd.prog 12 #[(.agg #[.int .i64 (k), .int .i64 (n), .string (s)])] X fun e w' => e = .returned (.string sh) ∧ Below X.heap.size X w') := fun X hX => by
    rw [hsh]
    exact rshow k n s X hn (hv.below hX)
  clear hb hc hl hx hsh hn hs hs' hv
  go_enter Tryd.func3, Tryd.ntmps3
  go_upto_region 1 with fail
  go_region_held3 (fun w' => Below w.heap.size w w' ∧ w.heap.size + 1 < w'.heap.size ∧ w'.cell? ⟨w.heap.size, 0, none⟩ = some (.int .i64 (k)) ∧ w'.cell? ⟨w.heap.size, 1, none⟩ = some (.int .i64 (n)) ∧ w'.cell? ⟨w.heap.size, 2, none⟩ = some (.string (s)) ∧ w'.cell? ⟨w.heap.size + 1, 0, none⟩ = some (.int .i64 (k')) ∧ w'.cell? ⟨w.heap.size + 1, 1, none⟩ = some (.int .i64 (n')) ∧ w'.cell? ⟨w.heap.size + 1, 2, none⟩ = some (.string (s'))) (first | (refine ⟨(((Below.refl _ _).alloc (Nat.le_refl _) _).alloc (by simp) _).drew, ?_⟩; go_keep) | (go_split_ands; and_intros <;> assumption) | (go_split_ands; exact ⟨keepBelow (by assumption) hb, keepSize hb (by assumption), keepCell hb (Nat.lt_of_succ_lt (by assumption)) (by assumption), keepCell hb (Nat.lt_of_succ_lt (by assumption)) (by assumption), keepCell hb (Nat.lt_of_succ_lt (by assumption)) (by assumption), keepCell hb (by assumption) (by assumption), keepCell hb (by assumption) (by assumption), keepCell hb (by assumption) (by assumption)⟩))
    (first
      | (go_at_call 5; refine (C1.out _).mono ?_; rintro e w' ⟨rfl, hb⟩)
      | (go_at_call 6; refine (C2.out _).mono ?_; rintro e w' ⟨rfl, hb⟩)
      | (go_at_call 7; refine (L1.out _).mono ?_; rintro e w' ⟨rfl, hb⟩)
      | (go_at_call 8; refine (L2.out _).mono ?_; rintro e w' ⟨rfl, hb⟩)
      | (go_at_call 9; go_split_ands; refine (X1.out _ (by assumption)).mono ?_; rintro e w' ⟨rfl, hb⟩)
      | (go_at_call 10; go_split_ands; refine (X2.out _ (by assumption)).mono ?_; rintro e w' ⟨rfl, hb⟩)
      | (go_at_call 11; go_split_ands; refine (S1.out _ (by assumption)).mono ?_; rintro e w' ⟨rfl, hb⟩)
      | (go_at_call 12; go_split_ands; refine (S2.out _ (by assumption)).mono ?_; rintro e w' ⟨rfl, hb⟩)
      | (go_at_call 4; refine (tsame _ _ _ _).mono ?_; rintro e w' ⟨rfl, hb⟩))
  go_wp2
  go_ret
  go_split_ands
  exact ⟨rfl, by assumption⟩
end Go.Proofs.YtmkfkjicfmllmaaDoor
