/- The contract of relstorekeep.ValueLaws: it answers true for any three values. -/
import Derived.Test.YtdhfpfkhhmdfgabOrdLaws
import Derived.Test.YtdhfpfkhhmdfgabReck
import Derived.Test.YtdhfpfkhhmdfgabSmall
import Derived.Test.YtdhfpfkhhmdfgabInv
import Derived.Test.YtdhfpfkhhmdfgabReg9
namespace Go.Proofs.Ytdhfpfkhhmdfgab
open Go.RowKit
attribute [local go_sem ↓] Go.wp_at_zero Go.wp_at_succ

theorem Inv3.drewN {w X : World} {k n : Int} {s : ByteArray} {k' n' : Int} {s' : ByteArray} {k'' n'' : Int} {s'' : ByteArray} (h : Inv3 w X k n s k' n' s' k'' n'' s'') (m : Nat) : Inv3 w (X.drewN m) k n s k' n' s' k'' n'' s'' := h.step (below_drewN (Below.refl _ _) m)
theorem rkk_t {op k x k' y : Int} (h : rkk op k x k' y = true) : k = 2 ∧ k' = 2 ∧ rok op x y = true := by
  simpa [rkk, and_assoc] using h
theorem rkk6 {n n' : Int} (hx : fits n = true) : rkk 6 2 (n + n') 2 n' = true := by
  have e : n + n' - n' = n := by omega
  simp [rkk, rok, e, hx]
theorem rval6 (n n' : Int) : rval 6 (n + n') n' = n := by
  have e : n + n' - n' = n := by omega
  simp [rval, e]
theorem rkk5_comm (n n' : Int) : rkk 5 2 n' 2 n = rkk 5 2 n 2 n' := by
  simp [rkk, rok, Int.add_comm]

theorem q_false {k n k' n' : Int} (h : rkk 8 k n k' n' = false) : qK 8 k n k' n' = 0 := by simp [qK, h, rK]
theorem q_true {k n k' n' : Int} (h : rkk 8 k n k' n' = true) : k = 2 ∧ k' = 2 ∧ dok n n' = true ∧ qK 8 k n k' n' = 2 ∧ qN 8 k n k' n' = n.tdiv n' ∧ qK 9 k n k' n' = 2 ∧ qN 9 k n k' n' = n.tmod n' := by
  obtain ⟨rfl, rfl, hd⟩ := rkk_t h
  have hd' : dok n n' = true := hd
  have h9 : rkk 9 2 n 2 n' = true := by simp [rkk, rok, hd']
  refine ⟨rfl, rfl, hd', ?_, ?_, ?_, ?_⟩
  · unfold qK; rw [h]; rfl
  · unfold qN; rw [h]; rfl
  · unfold qK; rw [h9]; rfl
  · unfold qN; rw [h9]; rfl
theorem dok_fits {x y : Int} (hx : fits x = true) (h : dok x y = true) : fits (x.tdiv y) = true := by
  simp [dok] at h
  exact tdiv_fits hx h.1 h.2

set_option maxRecDepth 100000 in
set_option maxHeartbeats 4000000 in
theorem claws (k n : Int) (s : ByteArray) (k' n' : Int) (s' : ByteArray) (k'' n'' : Int) (s'' : ByteArray) (w : World) (hx : fits n = true) (hy : fits n' = true) :
    Calls Try.prog 4 #[(.agg #[.int .i64 (k), .int .i64 (n), .string (s)]), (.agg #[.int .i64 (k'), .int .i64 (n'), .string (s')]), (.agg #[.int .i64 (k''), .int .i64 (n''), .string (s'')])] w fun e w' => e = .returned (.bool true) ∧ Below w.heap.size w w' := by
  have Hx : Hid _ := hx
  have Hy : Hid _ := hy
  clear hx hy
  go_enter Try.func4, Try.ntmps4
  go_upto_region 1 with fail
  go_cut [7, 8, 9] (fun x y z wx => x = .int .i64 (ordV k n s k' n' s') ∧ y = .int .i64 (ordV k' n' s' k'' n'' s'') ∧ z = .int .i64 (ordV k n s k'' n'' s'') ∧ Below w.heap.size w wx ∧ w.heap.size + 1 + 1 < wx.heap.size ∧ wx.cell? ⟨w.heap.size, 0, none⟩ = some (.int .i64 (k)) ∧ wx.cell? ⟨w.heap.size, 1, none⟩ = some (.int .i64 (n)) ∧ wx.cell? ⟨w.heap.size, 2, none⟩ = some (.string (s)) ∧ wx.cell? ⟨w.heap.size + 1, 0, none⟩ = some (.int .i64 (k')) ∧ wx.cell? ⟨w.heap.size + 1, 1, none⟩ = some (.int .i64 (n')) ∧ wx.cell? ⟨w.heap.size + 1, 2, none⟩ = some (.string (s')) ∧ wx.cell? ⟨w.heap.size + 1 + 1, 0, none⟩ = some (.int .i64 (k'')) ∧ wx.cell? ⟨w.heap.size + 1 + 1, 1, none⟩ = some (.int .i64 (n'')) ∧ wx.cell? ⟨w.heap.size + 1 + 1, 2, none⟩ = some (.string (s'')))
  case first =>
    go_region_held3 (fun w' => Below w.heap.size w w' ∧ w.heap.size + 1 + 1 < w'.heap.size ∧ w'.cell? ⟨w.heap.size, 0, none⟩ = some (.int .i64 (k)) ∧ w'.cell? ⟨w.heap.size, 1, none⟩ = some (.int .i64 (n)) ∧ w'.cell? ⟨w.heap.size, 2, none⟩ = some (.string (s)) ∧ w'.cell? ⟨w.heap.size + 1, 0, none⟩ = some (.int .i64 (k')) ∧ w'.cell? ⟨w.heap.size + 1, 1, none⟩ = some (.int .i64 (n')) ∧ w'.cell? ⟨w.heap.size + 1, 2, none⟩ = some (.string (s')) ∧ w'.cell? ⟨w.heap.size + 1 + 1, 0, none⟩ = some (.int .i64 (k'')) ∧ w'.cell? ⟨w.heap.size + 1 + 1, 1, none⟩ = some (.int .i64 (n'')) ∧ w'.cell? ⟨w.heap.size + 1 + 1, 2, none⟩ = some (.string (s''))) (first | (and_intros <;> (first | with_reducible exact below3 _ _ _ _ | (go_simp; done) | go_keep)) | (go_split_ands; and_intros <;> assumption) | (go_split_ands; exact ⟨keepBelow (by assumption) hb, keepSize hb (by assumption), keepCell hb (Nat.lt_of_succ_lt (Nat.lt_of_succ_lt (by assumption))) (by assumption), keepCell hb (Nat.lt_of_succ_lt (Nat.lt_of_succ_lt (by assumption))) (by assumption), keepCell hb (Nat.lt_of_succ_lt (Nat.lt_of_succ_lt (by assumption))) (by assumption), keepCell hb (Nat.lt_of_succ_lt (by assumption)) (by assumption), keepCell hb (Nat.lt_of_succ_lt (by assumption)) (by assumption), keepCell hb (Nat.lt_of_succ_lt (by assumption)) (by assumption), keepCell hb (by assumption) (by assumption), keepCell hb (by assumption) (by assumption), keepCell hb (by assumption) (by assumption)⟩))
      (first | (go_at_call 9; refine (vorder _ _ _ _ _ _ _).mono ?_; rintro e w' ⟨rfl, hb⟩))
    go_wp2_with fail
    go_meet
    go_split_ands
    refine ⟨rfl, rfl, rfl, ?_⟩
    and_intros <;> assumption
  case rest =>
    obtain ⟨rfl, rfl, rfl, hinv⟩ := hcut
    have hi : Inv3 w wc k n s k' n' s' k'' n'' s'' := hinv
    clear hinv
    go_upto_region 2 with fail
    go_cut [7, 8, 9, 63] (fun _ _ _ x wx => x = .bool false ∧ Inv3 w wx k n s k' n' s' k'' n'' s'')
    case first =>
      obtain ⟨z0, z1, z2, a0, a1, a2, b0, b1, b2, c0, c1, c2⟩ := hi.out
      have hba := ord_neg k n s k' n' s'
      have haa := ord_self k n s
      have h01 : ordV 0 0 ⟨#[]⟩ 1 0 ⟨#[]⟩ = -1 := rfl
      have hle := ord_le k n s k' n' s' k'' n'' s''
      rcases ord_range k n s k' n' s' with p | p | p <;> rcases ord_range k' n' s' k'' n'' s'' with q | q | q <;> rw [p, q] at hle <;> rw [p] at hba
      · have hr : decide (0 < ordV k n s k'' n'' s'') = false := by have := (hle (by decide) (by decide)).1; simpa using this
        clear hle
        go_wp2_with (go_at_call 9; refine (vorder _ _ _ _ _ _ _).mono ?_; rintro e w' ⟨rfl, hb⟩; replace hi := hi.step hb; clear hb z0 z1 z2 a0 a1 a2 b0 b1 b2 c0 c1 c2; obtain ⟨z0, z1, z2, a0, a1, a2, b0, b1, b2, c0, c1, c2⟩ := hi.out)
        go_meet
        exact ⟨rfl, hi⟩
      · have hr : decide (0 < ordV k n s k'' n'' s'') = false := by have := (hle (by decide) (by decide)).1; simpa using this
        clear hle
        go_wp2_with (go_at_call 9; refine (vorder _ _ _ _ _ _ _).mono ?_; rintro e w' ⟨rfl, hb⟩; replace hi := hi.step hb; clear hb z0 z1 z2 a0 a1 a2 b0 b1 b2 c0 c1 c2; obtain ⟨z0, z1, z2, a0, a1, a2, b0, b1, b2, c0, c1, c2⟩ := hi.out)
        go_meet
        exact ⟨rfl, hi⟩
      · clear hle
        go_wp2_with (go_at_call 9; refine (vorder _ _ _ _ _ _ _).mono ?_; rintro e w' ⟨rfl, hb⟩; replace hi := hi.step hb; clear hb z0 z1 z2 a0 a1 a2 b0 b1 b2 c0 c1 c2; obtain ⟨z0, z1, z2, a0, a1, a2, b0, b1, b2, c0, c1, c2⟩ := hi.out)
        go_meet
        exact ⟨rfl, hi⟩
      · have hr : decide (0 < ordV k n s k'' n'' s'') = false := by have := (hle (by decide) (by decide)).1; simpa using this
        clear hle
        go_wp2_with (go_at_call 9; refine (vorder _ _ _ _ _ _ _).mono ?_; rintro e w' ⟨rfl, hb⟩; replace hi := hi.step hb; clear hb z0 z1 z2 a0 a1 a2 b0 b1 b2 c0 c1 c2; obtain ⟨z0, z1, z2, a0, a1, a2, b0, b1, b2, c0, c1, c2⟩ := hi.out)
        go_meet
        exact ⟨rfl, hi⟩
      · have hr : ordV k n s k'' n'' s'' = 0 := (hle (by decide) (by decide)).2 rfl rfl
        clear hle
        go_wp2_with (go_at_call 9; refine (vorder _ _ _ _ _ _ _).mono ?_; rintro e w' ⟨rfl, hb⟩; replace hi := hi.step hb; clear hb z0 z1 z2 a0 a1 a2 b0 b1 b2 c0 c1 c2; obtain ⟨z0, z1, z2, a0, a1, a2, b0, b1, b2, c0, c1, c2⟩ := hi.out)
        go_meet
        exact ⟨rfl, hi⟩
      · clear hle
        go_wp2_with (go_at_call 9; refine (vorder _ _ _ _ _ _ _).mono ?_; rintro e w' ⟨rfl, hb⟩; replace hi := hi.step hb; clear hb z0 z1 z2 a0 a1 a2 b0 b1 b2 c0 c1 c2; obtain ⟨z0, z1, z2, a0, a1, a2, b0, b1, b2, c0, c1, c2⟩ := hi.out)
        go_meet
        exact ⟨rfl, hi⟩
      · clear hle
        go_wp2_with (go_at_call 9; refine (vorder _ _ _ _ _ _ _).mono ?_; rintro e w' ⟨rfl, hb⟩; replace hi := hi.step hb; clear hb z0 z1 z2 a0 a1 a2 b0 b1 b2 c0 c1 c2; obtain ⟨z0, z1, z2, a0, a1, a2, b0, b1, b2, c0, c1, c2⟩ := hi.out)
        go_meet
        exact ⟨rfl, hi⟩
      · clear hle
        go_wp2_with (go_at_call 9; refine (vorder _ _ _ _ _ _ _).mono ?_; rintro e w' ⟨rfl, hb⟩; replace hi := hi.step hb; clear hb z0 z1 z2 a0 a1 a2 b0 b1 b2 c0 c1 c2; obtain ⟨z0, z1, z2, a0, a1, a2, b0, b1, b2, c0, c1, c2⟩ := hi.out)
        go_meet
        exact ⟨rfl, hi⟩
      · clear hle
        go_wp2_with (go_at_call 9; refine (vorder _ _ _ _ _ _ _).mono ?_; rintro e w' ⟨rfl, hb⟩; replace hi := hi.step hb; clear hb z0 z1 z2 a0 a1 a2 b0 b1 b2 c0 c1 c2; obtain ⟨z0, z1, z2, a0, a1, a2, b0, b1, b2, c0, c1, c2⟩ := hi.out)
        go_meet
        exact ⟨rfl, hi⟩
    case rest =>
      clear hi
      obtain ⟨rfl, hi⟩ := hcut
      go_upto_region 4 with fail
      go_cut [95] (fun x wx => x = .bool false ∧ Inv3 w wx k n s k' n' s' k'' n'' s'')
      case first =>
        have t1 := th_both
        have t2 := th_either
        have t3 := th_inot
        have t4 := morgan k n k' n'
        have t5 := both_comm (th k' n') (th k n)
        have t6 := either_assoc k n k' n' k'' n''
        go_region_held3 (fun w' => Below w.heap.size w w' ∧ w.heap.size + 1 + 1 < w'.heap.size ∧ w'.cell? ⟨w.heap.size, 0, none⟩ = some (.int .i64 (k)) ∧ w'.cell? ⟨w.heap.size, 1, none⟩ = some (.int .i64 (n)) ∧ w'.cell? ⟨w.heap.size, 2, none⟩ = some (.string (s)) ∧ w'.cell? ⟨w.heap.size + 1, 0, none⟩ = some (.int .i64 (k')) ∧ w'.cell? ⟨w.heap.size + 1, 1, none⟩ = some (.int .i64 (n')) ∧ w'.cell? ⟨w.heap.size + 1, 2, none⟩ = some (.string (s')) ∧ w'.cell? ⟨w.heap.size + 1 + 1, 0, none⟩ = some (.int .i64 (k'')) ∧ w'.cell? ⟨w.heap.size + 1 + 1, 1, none⟩ = some (.int .i64 (n'')) ∧ w'.cell? ⟨w.heap.size + 1 + 1, 2, none⟩ = some (.string (s''))) (first | exact hi.drew | (go_split_ands; and_intros <;> assumption) | (go_split_ands; exact ⟨keepBelow (by assumption) hb, keepSize hb (by assumption), keepCell hb (Nat.lt_of_succ_lt (Nat.lt_of_succ_lt (by assumption))) (by assumption), keepCell hb (Nat.lt_of_succ_lt (Nat.lt_of_succ_lt (by assumption))) (by assumption), keepCell hb (Nat.lt_of_succ_lt (Nat.lt_of_succ_lt (by assumption))) (by assumption), keepCell hb (Nat.lt_of_succ_lt (by assumption)) (by assumption), keepCell hb (Nat.lt_of_succ_lt (by assumption)) (by assumption), keepCell hb (Nat.lt_of_succ_lt (by assumption)) (by assumption), keepCell hb (by assumption) (by assumption), keepCell hb (by assumption) (by assumption), keepCell hb (by assumption) (by assumption)⟩))
          (first | (go_at_call 16; refine (vboth _ _ _ _ _ _ _).mono ?_; rintro e w' ⟨rfl, hb⟩) | (go_at_call 17; refine (veither _ _ _ _ _ _ _).mono ?_; rintro e w' ⟨rfl, hb⟩) | (go_at_call 15; refine (vnot _ _ _ _).mono ?_; rintro e w' ⟨rfl, hb⟩))
        all_goals
          go_wp2_with fail
          go_meet
          go_split_ands
          refine ⟨rfl, ?_⟩
          unfold Inv3
          and_intros <;> assumption
      case rest =>
        clear hi
        obtain ⟨rfl, hi⟩ := hcut
        go_upto_region 6 with fail
        go_cut [10] (fun p wx => ∃ b, p = .pointer (some ⟨b, 0, none⟩) ∧ w.heap.size + 1 + 1 < b ∧ b < wx.heap.size ∧ wx.cell? ⟨b, 0, none⟩ = some (.int .i64 (rK (rkk 5 k n k' n'))) ∧ wx.cell? ⟨b, 1, none⟩ = some (.int .i64 (rN (rkk 5 k n k' n') (rval 5 n n'))) ∧ wx.cell? ⟨b, 2, none⟩ = some (.string (⟨#[]⟩)) ∧ Inv3 w wx k n s k' n' s' k'' n'' s'')
        case first =>
          obtain ⟨z0, z1, z2, a0, a1, a2, b0, b1, b2, c0, c1, c2⟩ := hi.out
          go_wp2_with (go_at_call 18; refine (vreckon _ _ _ _ _ _ _ _ Hx.out Hy.out).mono ?_; rintro e w' ⟨rfl, hb⟩; replace hi := hi.step hb; clear hb z0 z1 z2 a0 a1 a2 b0 b1 b2 c0 c1 c2; obtain ⟨z0, z1, z2, a0, a1, a2, b0, b1, b2, c0, c1, c2⟩ := hi.out)
          go_meet
          exact ⟨_, rfl, z2, by simp, by go_simp, by go_simp, by go_simp, hi.alloc _⟩
        case rest =>
          clear hi
          obtain ⟨b, rfl, hlo, hhi, d0, d1, d2, hi⟩ := hcut
          go_upto_region 7 with fail
          go_cut [10, 116] (fun _ x wx => x = .bool false ∧ Inv3 w wx k n s k' n' s' k'' n'' s'')
          case first =>
            cases hA : rkk 5 k n k' n' with
            | false =>
              rw [hA] at d0 d1
              have e0 : rK false = 0 := rfl
              rw [e0] at d0
              clear e0 hA
              go_quiet (fail)
              go_wp2_with fail
              go_meet
              exact ⟨rfl, hi.drewN _⟩
            | true =>
              obtain ⟨rfl, rfl, hs⟩ := rkk_t hA
              have hs' : fits (n + n') = true := hs
              rw [hA] at d0 d1
              have e0 : rK true = 2 := rfl
              have e1 : ∀ v, rN true v = v := fun _ => rfl
              have e2 : rval 5 n n' = n + n' := rfl
              rw [e0] at d0
              rw [e1, e2] at d1
              have e3 : rkk 6 2 (n + n') 2 n' = true := rkk6 Hx.out
              have e4 : rval 6 (n + n') n' = n := rval6 n n'
              have e5 : rkk 5 2 n' 2 n = true := by rw [← hA]; exact rkk5_comm n n'
              have e6 : rval 5 n' n = n + n' := Int.add_comm n' n
              have e7 : ck 2 = 2 := rfl
              have e8 : ∀ v, cn 2 v = v := fun _ => rfl
              have e9 : ∀ v, cs 2 v = ⟨#[]⟩ := fun _ => rfl
              have Hs : Hid _ := hs'
              clear hA hs hs' e2
              go_region_held3 (fun w' => w.heap.size + 1 + 1 < b ∧ b < w'.heap.size ∧ w'.cell? ⟨b, 0, none⟩ = some (.int .i64 (2)) ∧ w'.cell? ⟨b, 1, none⟩ = some (.int .i64 (n + n')) ∧ w'.cell? ⟨b, 2, none⟩ = some (.string (⟨#[]⟩)) ∧ Below w.heap.size w w' ∧ w.heap.size + 1 + 1 < w'.heap.size ∧ w'.cell? ⟨w.heap.size, 0, none⟩ = some (.int .i64 (2)) ∧ w'.cell? ⟨w.heap.size, 1, none⟩ = some (.int .i64 (n)) ∧ w'.cell? ⟨w.heap.size, 2, none⟩ = some (.string (s)) ∧ w'.cell? ⟨w.heap.size + 1, 0, none⟩ = some (.int .i64 (2)) ∧ w'.cell? ⟨w.heap.size + 1, 1, none⟩ = some (.int .i64 (n')) ∧ w'.cell? ⟨w.heap.size + 1, 2, none⟩ = some (.string (s')) ∧ w'.cell? ⟨w.heap.size + 1 + 1, 0, none⟩ = some (.int .i64 (k'')) ∧ w'.cell? ⟨w.heap.size + 1 + 1, 1, none⟩ = some (.int .i64 (n'')) ∧ w'.cell? ⟨w.heap.size + 1 + 1, 2, none⟩ = some (.string (s''))) (first | exact ⟨hlo, hhi, d0, d1, d2, hi.drew⟩ | (go_split_ands; and_intros <;> assumption) | (go_split_ands; exact ⟨by assumption, keepSize hb (by assumption), keepCell hb (by assumption) (by assumption), keepCell hb (by assumption) (by assumption), keepCell hb (by assumption) (by assumption), keepBelow (by assumption) hb, keepSize hb (by assumption), keepCell hb (Nat.lt_of_succ_lt (Nat.lt_of_succ_lt (by assumption))) (by assumption), keepCell hb (Nat.lt_of_succ_lt (Nat.lt_of_succ_lt (by assumption))) (by assumption), keepCell hb (Nat.lt_of_succ_lt (Nat.lt_of_succ_lt (by assumption))) (by assumption), keepCell hb (Nat.lt_of_succ_lt (by assumption)) (by assumption), keepCell hb (Nat.lt_of_succ_lt (by assumption)) (by assumption), keepCell hb (Nat.lt_of_succ_lt (by assumption)) (by assumption), keepCell hb (by assumption) (by assumption), keepCell hb (by assumption) (by assumption), keepCell hb (by assumption) (by assumption)⟩))
                (first | (go_at_call 18; refine (vreckon _ _ _ _ _ _ _ _ ?_ ?_).mono ?_; (first | exact Hx.out | exact Hy.out | exact Hs.out); (first | exact Hx.out | exact Hy.out | exact Hs.out); rintro e w' ⟨rfl, hb⟩) | (go_at_call 19; refine (vclean _ _ _ _).mono ?_; rintro e w' ⟨rfl, hb⟩))
              go_wp2_with fail
              go_meet
              go_split_ands
              refine ⟨rfl, ?_⟩
              unfold Inv3
              and_intros <;> assumption
          case rest =>
            clear hi
            obtain ⟨rfl, hi⟩ := hcut
            go_upto_region 9 with fail
            refine reg9 (w := w) Hx.out Hy.out hi ?_ rfl rfl rfl (by kernel_rfl) (by kernel_rfl) (by kernel_rfl) (by kernel_rfl) (by kernel_rfl) (by kernel_rfl) ?_
            · simp
            · clear hi
              intro b1 b2 X lo1 hi1 C1 lo2 hi2 C2 hi
              simp only [sets, List.setIfInBounds_toArray, List.set_cons_zero, List.set_cons_succ]
              go_wp2_with fail
              obtain ⟨d0, d1, d2⟩ := C1
              obtain ⟨r0, r1, r2⟩ := C2
              cases hA : rkk 8 k n k' n' with
              | false =>
                rw [q_false hA] at d0
                clear hA
                go_quiet (fail)
                go_wp2
                go_ret
                exact ⟨rfl, (hi.drewN _).1⟩
              | true =>
                obtain ⟨rfl, rfl, hd, w1, w2, w3, w4⟩ := q_true hA
                rw [w1] at d0
                rw [w2] at d1
                rw [w3] at r0
                rw [w4] at r1
                have H1 : Hid _ := dok_fits Hx.out hd
                have H2 : Hid _ := Hy.out
                have H3 : Hid _ := mul_fits_of_tdiv (y := n') Hx.out
                have H4 : Hid _ := tmod_fits Hx.out Hy.out
                have H5 : Hid (fits 2 = true) := (rfl : fits 2 = true)
                have H6 : Hid (fits 3 = true) := (rfl : fits 3 = true)
                have e0 : rK true = 2 := rfl
                have e1 : ∀ v, rN true v = v := fun _ => rfl
                have e2 : rkk 7 2 (n.tdiv n') 2 n' = true := by have := H3.out; simp [rkk, rok, this]
                have e3 : rval 7 (n.tdiv n') n' = n.tdiv n' * n' := rfl
                have e4 : rkk 5 2 (n.tdiv n' * n') 2 (n.tmod n') = true := by have := Hx.out; simp [rkk, rok, tdiv_tmod, this]
                have e5 : rval 5 (n.tdiv n' * n') (n.tmod n') = n := tdiv_tmod n n'
                have e6 : rkk 5 2 2 2 3 = true := rfl
                have e7 : rval 5 2 3 = 5 := rfl
                have e8 : ck 2 = 2 := rfl
                have e9 : ∀ v, cn 2 v = v := fun _ => rfl
                have e10 : ∀ v, cs 2 v = ⟨#[]⟩ := fun _ => rfl
                have hfld : ∀ X : World, (Instr.field 28 (.agg #[.int .i64 (2), .int .i64 (5), .string (⟨#[]⟩)]) 1).run Try.prog X = .ok (.int .i64 5) X := fun _ => by kernel_rfl
                clear hA hd w1 w2 w3 w4
                go_region_held3 (fun w' => w.heap.size + 1 + 1 < b1 ∧ b1 < w'.heap.size ∧ w'.cell? ⟨b1, 0, none⟩ = some (.int .i64 (2)) ∧ w'.cell? ⟨b1, 1, none⟩ = some (.int .i64 (n.tdiv n')) ∧ w'.cell? ⟨b1, 2, none⟩ = some (.string (⟨#[]⟩)) ∧ w.heap.size + 1 + 1 < b2 ∧ b2 < w'.heap.size ∧ w'.cell? ⟨b2, 0, none⟩ = some (.int .i64 (2)) ∧ w'.cell? ⟨b2, 1, none⟩ = some (.int .i64 (n.tmod n')) ∧ w'.cell? ⟨b2, 2, none⟩ = some (.string (⟨#[]⟩)) ∧ Below w.heap.size w w' ∧ w.heap.size + 1 + 1 < w'.heap.size ∧ w'.cell? ⟨w.heap.size, 0, none⟩ = some (.int .i64 (2)) ∧ w'.cell? ⟨w.heap.size, 1, none⟩ = some (.int .i64 (n)) ∧ w'.cell? ⟨w.heap.size, 2, none⟩ = some (.string (s)) ∧ w'.cell? ⟨w.heap.size + 1, 0, none⟩ = some (.int .i64 (2)) ∧ w'.cell? ⟨w.heap.size + 1, 1, none⟩ = some (.int .i64 (n')) ∧ w'.cell? ⟨w.heap.size + 1, 2, none⟩ = some (.string (s')) ∧ w'.cell? ⟨w.heap.size + 1 + 1, 0, none⟩ = some (.int .i64 (k'')) ∧ w'.cell? ⟨w.heap.size + 1 + 1, 1, none⟩ = some (.int .i64 (n'')) ∧ w'.cell? ⟨w.heap.size + 1 + 1, 2, none⟩ = some (.string (s''))) (first | exact ⟨lo1, hi1, d0, d1, d2, lo2, hi2, r0, r1, r2, hi.drew⟩ | (go_split_ands; and_intros <;> assumption) | (go_split_ands; exact ⟨by assumption, keepSize hb (by assumption), keepCell hb (by assumption) (by assumption), keepCell hb (by assumption) (by assumption), keepCell hb (by assumption) (by assumption), by assumption, keepSize hb (by assumption), keepCell hb (by assumption) (by assumption), keepCell hb (by assumption) (by assumption), keepCell hb (by assumption) (by assumption), keepBelow (by assumption) hb, keepSize hb (by assumption), keepCell hb (Nat.lt_of_succ_lt (Nat.lt_of_succ_lt (by assumption))) (by assumption), keepCell hb (Nat.lt_of_succ_lt (Nat.lt_of_succ_lt (by assumption))) (by assumption), keepCell hb (Nat.lt_of_succ_lt (Nat.lt_of_succ_lt (by assumption))) (by assumption), keepCell hb (Nat.lt_of_succ_lt (by assumption)) (by assumption), keepCell hb (Nat.lt_of_succ_lt (by assumption)) (by assumption), keepCell hb (Nat.lt_of_succ_lt (by assumption)) (by assumption), keepCell hb (by assumption) (by assumption), keepCell hb (by assumption) (by assumption), keepCell hb (by assumption) (by assumption)⟩))
                  (first | (go_at_call 18; refine (vreckon _ _ _ _ _ _ _ _ ?_ ?_).mono ?_; (first | exact H1.out | exact H3.out | exact H5.out); (first | exact H2.out | exact H4.out | exact H6.out); rintro e w' ⟨rfl, hb⟩) | (go_at_call 19; refine (vclean _ _ _ _).mono ?_; rintro e w' ⟨rfl, hb⟩))
                go_wp2
                go_ret
                go_split_ands
                exact ⟨rfl, by assumption⟩
end Go.Proofs.Ytdhfpfkhhmdfgab
