/- The contract of relstorelaw.ValueOrders: it answers true for any two values and any two lists. -/
import Derived.Test.YtdhfpfkhhmdfgaaLent
namespace Go.Proofs.Ytdhfpfkhhmdfgaa
open Go.RowKit
attribute [local go_sem ↓] Go.wp_at_zero Go.wp_at_succ

/- two boxes, two lists that came in, two that were made -/
def OI (w X : World) (k n : Int) (s : ByteArray) (k' n' : Int) (s' : ByteArray) (al : Option Addr) (ln : Nat) (am : Option Addr) (mn : Nat) (K N : Nat → Int) (S : Nat → ByteArray) (K' N' : Nat → Int) (S' : Nat → ByteArray) (g g' : Nat) : Prop :=
  Below w.heap.size w X ∧ w.heap.size + 1 < X.heap.size ∧ X.cell? ⟨w.heap.size, 0, none⟩ = some (.int .i64 (k)) ∧ X.cell? ⟨w.heap.size, 1, none⟩ = some (.int .i64 (n)) ∧ X.cell? ⟨w.heap.size, 2, none⟩ = some (.string (s)) ∧ X.cell? ⟨w.heap.size + 1, 0, none⟩ = some (.int .i64 (k')) ∧ X.cell? ⟨w.heap.size + 1, 1, none⟩ = some (.int .i64 (n')) ∧ X.cell? ⟨w.heap.size + 1, 2, none⟩ = some (.string (s')) ∧ g < X.heap.size ∧ g' < X.heap.size ∧
  Lies X g 0 ln K N S ∧ Lies X g' 0 mn K' N' S' ∧ LiesA X al ln K N S ∧ LiesA X am mn K' N' S' ∧ MarksAt X g ln ∧ MarksAt X g' mn
theorem MarksAt.below {w X : World} {g n : Nat} (h : MarksAt w g n) (hg : g < w.heap.size) (hb : Below w.heap.size w X) : MarksAt X g n := by
  obtain ⟨a, b, c, d, e, f⟩ := h
  exact ⟨keepCell hb hg a, keepCell hb hg b, keepCell hb hg c, keepCell hb hg d, keepCell hb hg e, keepCell hb hg f⟩
theorem OI.step {w X Y : World} {k n : Int} {s : ByteArray} {k' n' : Int} {s' : ByteArray} {al : Option Addr} {ln : Nat} {am : Option Addr} {mn : Nat} {K N : Nat → Int} {S : Nat → ByteArray} {K' N' : Nat → Int} {S' : Nat → ByteArray} {g g' : Nat}
    (h : OI w X k n s k' n' s' al ln am mn K N S K' N' S' g g') (hb : Below X.heap.size X Y) : OI w Y k n s k' n' s' al ln am mn K N S K' N' S' g g' := by
  obtain ⟨hB, z, a0, a1, a2, b0, b1, b2, zg, zg', l1, l2, l3, l4, m1, m2⟩ := h
  have za : w.heap.size < X.heap.size := by omega
  exact ⟨keepBelow hB hb, keepSize hb z, keepCell hb za a0, keepCell hb za a1, keepCell hb za a2, keepCell hb z b0, keepCell hb z b1, keepCell hb z b2, keepSize hb zg, keepSize hb zg', l1.below hb, l2.below hb, l3.below hb, l4.below hb, m1.below zg hb, m2.below zg' hb⟩

theorem OI.zg {w X : World} {k n : Int} {s : ByteArray} {k' n' : Int} {s' : ByteArray} {al : Option Addr} {ln : Nat} {am : Option Addr} {mn : Nat} {K N : Nat → Int} {S : Nat → ByteArray} {K' N' : Nat → Int} {S' : Nat → ByteArray} {g g' : Nat} (h : OI w X k n s k' n' s' al ln am mn K N S K' N' S' g g') : g < X.heap.size := h.2.2.2.2.2.2.2.2.1
theorem OI.zg' {w X : World} {k n : Int} {s : ByteArray} {k' n' : Int} {s' : ByteArray} {al : Option Addr} {ln : Nat} {am : Option Addr} {mn : Nat} {K N : Nat → Int} {S : Nat → ByteArray} {K' N' : Nat → Int} {S' : Nat → ByteArray} {g g' : Nat} (h : OI w X k n s k' n' s' al ln am mn K N S K' N' S' g g') : g' < X.heap.size := h.2.2.2.2.2.2.2.2.2.1
theorem OI.l1 {w X : World} {k n : Int} {s : ByteArray} {k' n' : Int} {s' : ByteArray} {al : Option Addr} {ln : Nat} {am : Option Addr} {mn : Nat} {K N : Nat → Int} {S : Nat → ByteArray} {K' N' : Nat → Int} {S' : Nat → ByteArray} {g g' : Nat} (h : OI w X k n s k' n' s' al ln am mn K N S K' N' S' g g') : Lies X g 0 ln K N S := h.2.2.2.2.2.2.2.2.2.2.1
theorem OI.l2 {w X : World} {k n : Int} {s : ByteArray} {k' n' : Int} {s' : ByteArray} {al : Option Addr} {ln : Nat} {am : Option Addr} {mn : Nat} {K N : Nat → Int} {S : Nat → ByteArray} {K' N' : Nat → Int} {S' : Nat → ByteArray} {g g' : Nat} (h : OI w X k n s k' n' s' al ln am mn K N S K' N' S' g g') : Lies X g' 0 mn K' N' S' := h.2.2.2.2.2.2.2.2.2.2.2.1
theorem OI.l3 {w X : World} {k n : Int} {s : ByteArray} {k' n' : Int} {s' : ByteArray} {al : Option Addr} {ln : Nat} {am : Option Addr} {mn : Nat} {K N : Nat → Int} {S : Nat → ByteArray} {K' N' : Nat → Int} {S' : Nat → ByteArray} {g g' : Nat} (h : OI w X k n s k' n' s' al ln am mn K N S K' N' S' g g') : LiesA X al ln K N S := h.2.2.2.2.2.2.2.2.2.2.2.2.1
theorem OI.l4 {w X : World} {k n : Int} {s : ByteArray} {k' n' : Int} {s' : ByteArray} {al : Option Addr} {ln : Nat} {am : Option Addr} {mn : Nat} {K N : Nat → Int} {S : Nat → ByteArray} {K' N' : Nat → Int} {S' : Nat → ByteArray} {g g' : Nat} (h : OI w X k n s k' n' s' al ln am mn K N S K' N' S' g g') : LiesA X am mn K' N' S' := h.2.2.2.2.2.2.2.2.2.2.2.2.2.1
theorem OI.m1 {w X : World} {k n : Int} {s : ByteArray} {k' n' : Int} {s' : ByteArray} {al : Option Addr} {ln : Nat} {am : Option Addr} {mn : Nat} {K N : Nat → Int} {S : Nat → ByteArray} {K' N' : Nat → Int} {S' : Nat → ByteArray} {g g' : Nat} (h : OI w X k n s k' n' s' al ln am mn K N S K' N' S' g g') : MarksAt X g ln := h.2.2.2.2.2.2.2.2.2.2.2.2.2.2.1
theorem OI.m2 {w X : World} {k n : Int} {s : ByteArray} {k' n' : Int} {s' : ByteArray} {al : Option Addr} {ln : Nat} {am : Option Addr} {mn : Nat} {K N : Nat → Int} {S : Nat → ByteArray} {K' N' : Nat → Int} {S' : Nat → ByteArray} {g g' : Nat} (h : OI w X k n s k' n' s' al ln am mn K N S K' N' S' g g') : MarksAt X g' mn := h.2.2.2.2.2.2.2.2.2.2.2.2.2.2.2

set_option maxRecDepth 100000 in
set_option maxHeartbeats 1000000 in
theorem lorders (k n : Int) (s : ByteArray) (k' n' : Int) (s' : ByteArray) (al : Option Addr) (ln lc : Nat) (am : Option Addr) (mn mc : Nat) (K N : Nat → Int) (S : Nat → ByteArray) (K' N' : Nat → Int) (S' : Nat → ByteArray) (w : World)
    (hA : LiesA w al ln K N S) (hB : LiesA w am mn K' N' S') (hn : ln * 32 ≤ 140737488351232) (hm : mn * 32 ≤ 140737488351232) :
    Calls Try.prog 3 #[(.agg #[.int .i64 (k), .int .i64 (n), .string (s)]), (.agg #[.int .i64 (k'), .int .i64 (n'), .string (s')]), .slice al ln lc, .slice am mn mc] w fun e w' => e = .returned (.bool true) ∧ Below w.heap.size w w' := by
  have H1 : Hid (ln ≤ 4398046511104) := (by omega : ln ≤ 4398046511104)
  have H2 : Hid (mn ≤ 4398046511104) := (by omega : mn ≤ 4398046511104)
  have H3 : Hid ((ln + 2) * 32 ≤ 140737488355328) := (by omega : (ln + 2) * 32 ≤ 140737488355328)
  have H4 : Hid ((mn + 2) * 32 ≤ 140737488355328) := (by omega : (mn + 2) * 32 ≤ 140737488355328)
  have HA : Hid (LiesA w al ln K N S) := hA
  have HB : Hid (LiesA w am mn K' N' S') := hB
  clear hA hB hn hm
  go_enter Try.func3, Try.ntmps3
  go_wp2_with fail
  have hw0 : Below w.heap.size w ((w.alloc (.cells #[.int .i64 k, .int .i64 n, .string s] 23)).alloc (.cells #[.int .i64 k', .int .i64 n', .string s'] 23)) := (((Below.refl _ _).alloc (Nat.le_refl _) _).alloc (by simp) _)
  refine (clent _ _ _ K N S _ ?_ H1.out H3.out).mono ?_
  · exact HA.out.below hw0
  rintro e w1 ⟨g, cap1, rfl, lo1, hi1, cp1, L1, M1, hb1⟩
  have F1 : Hid (Lies w1 g 0 ln K N S) := L1
  have F2 : Hid (MarksAt w1 g ln) := M1
  clear L1 M1
  go_wp2_with fail
  refine (clent _ _ _ K' N' S' _ ?_ H2.out H4.out).mono ?_
  · exact (HB.out.below hw0).below hb1
  rintro e w2 ⟨g', cap2, rfl, lo2, hi2, cp2, L2, M2, hb2⟩
  have hb12 := hb1.trans (hb2.mono hb1.size)
  have hi : OI w w2 k n s k' n' s' al ln am mn K N S K' N' S' g g' := by
    obtain ⟨hc, -⟩ := bcell hb12
    refine ⟨keepBelow hw0 hb12, ?_, ?_, ?_, ?_, ?_, ?_, ?_, keepSize hb2 hi1, hi2, F1.out.below hb2, L2, (HA.out.below hw0).below hb12, (HB.out.below hw0).below hb12, F2.out.below hi1 hb2, M2⟩
    · exact keepSize hb12 (by simp)
    · rw [hc _ _ (by simp; omega)]; go_simp
    · rw [hc _ _ (by simp; omega)]; go_simp
    · rw [hc _ _ (by simp; omega)]; go_simp
    · rw [hc _ _ (by simp)]; go_simp
    · rw [hc _ _ (by simp)]; go_simp
    · rw [hc _ _ (by simp)]; go_simp
  clear hb1 hb2 hb12 L2 M2 F1 F2 hw0 HA HB lo1 lo2 hi1 hi2
  go_upto_region 2 with fail
  go_cut [39] (fun x wx => x = .bool false ∧ OI w wx k n s k' n' s' al ln am mn K N S K' N' S' g g')
  case first =>
    have i1 : (0 : Int) ≤ (ln : Int) := by omega
    have i2 : (0 : Int) ≤ (mn : Int) := by omega
    have i3 : (ln : Int) ≤ (cap1 : Int) := by omega
    have i4 : (mn : Int) ≤ (cap2 : Int) := by omega
    go_region_held3 (fun w' => OI w w' k n s k' n' s' al ln am mn K N S K' N' S' g g') (first | exact hi.step (Below.refl _ _).drew | assumption | exact OI.step (by assumption) hb)
      (first
        | (go_at_call 9; refine (vrows _ _ _ _ _ _ _ _ K N S K' N' S' _ ?_ ?_ H1.out H2.out).mono ?_; (exact OI.l1 (by assumption)); (exact OI.l2 (by assumption)); rintro e w' ⟨rfl, hb⟩)
        | (go_at_call 10; refine (rrowsA _ _ _ _ _ _ K N S K' N' S' _ ?_ ?_ H1.out H2.out).mono ?_; (exact OI.l3 (by assumption)); (exact OI.l4 (by assumption)); rintro e w' ⟨rfl, hb⟩)
        | (go_at_call_of 11 (Value.slice al ln lc); refine (cback g ln cap1 al lc K N S _ ?_ cp1 ?_ ?_ H1.out ?_ ?_ ?_ ?_ ?_ ?_).mono ?_; (exact OI.zg (by assumption)); (exact OI.l1 (by assumption)); (exact OI.l3 (by assumption)); (exact (OI.m1 (by assumption)).1); (exact (OI.m1 (by assumption)).2.1); (exact (OI.m1 (by assumption)).2.2.1); (exact (OI.m1 (by assumption)).2.2.2.1); (exact (OI.m1 (by assumption)).2.2.2.2.1); (exact (OI.m1 (by assumption)).2.2.2.2.2); rintro e w' ⟨rfl, hb⟩)
        | (go_at_call_of 11 (Value.slice am mn mc); refine (cback g' mn cap2 am mc K' N' S' _ ?_ cp2 ?_ ?_ H2.out ?_ ?_ ?_ ?_ ?_ ?_).mono ?_; (exact OI.zg' (by assumption)); (exact OI.l2 (by assumption)); (exact OI.l4 (by assumption)); (exact (OI.m2 (by assumption)).1); (exact (OI.m2 (by assumption)).2.1); (exact (OI.m2 (by assumption)).2.2.1); (exact (OI.m2 (by assumption)).2.2.2.1); (exact (OI.m2 (by assumption)).2.2.2.2.1); (exact (OI.m2 (by assumption)).2.2.2.2.2); rintro e w' ⟨rfl, hb⟩))
    go_wp2_with fail
    go_meet
    exact ⟨rfl, by assumption⟩
  case rest =>
    clear hi
    obtain ⟨rfl, hi⟩ := hcut
    obtain ⟨hB0, z1, a0, a1, a2, b0, b1, b2, -⟩ := hi
    go_upto_region 4 with fail
    go_region_held3 (fun w' => Below w.heap.size w w' ∧ w.heap.size + 1 < w'.heap.size ∧ w'.cell? ⟨w.heap.size, 0, none⟩ = some (.int .i64 (k)) ∧ w'.cell? ⟨w.heap.size, 1, none⟩ = some (.int .i64 (n)) ∧ w'.cell? ⟨w.heap.size, 2, none⟩ = some (.string (s)) ∧ w'.cell? ⟨w.heap.size + 1, 0, none⟩ = some (.int .i64 (k')) ∧ w'.cell? ⟨w.heap.size + 1, 1, none⟩ = some (.int .i64 (n')) ∧ w'.cell? ⟨w.heap.size + 1, 2, none⟩ = some (.string (s'))) (first | exact ⟨hB0.drew, z1, a0, a1, a2, b0, b1, b2⟩ | (go_split_ands; and_intros <;> assumption) | (go_split_ands; exact ⟨keepBelow (by assumption) hb, keepSize hb (by assumption), keepCell hb (Nat.lt_of_succ_lt (by assumption)) (by assumption), keepCell hb (Nat.lt_of_succ_lt (by assumption)) (by assumption), keepCell hb (Nat.lt_of_succ_lt (by assumption)) (by assumption), keepCell hb (by assumption) (by assumption), keepCell hb (by assumption) (by assumption), keepCell hb (by assumption) (by assumption)⟩))
      (first
        | (go_at_call 12; refine (vorder _ _ _ _ _ _ _).mono ?_; rintro e w' ⟨rfl, hb⟩)
        | (go_at_call 13; refine (rorder _ _ _ _ _ _ _).mono ?_; rintro e w' ⟨rfl, hb⟩)
        | (go_at_call 15; refine (vclean _ _ _ _).mono ?_; rintro e w' ⟨rfl, hb⟩)
        | (go_at_call 16; refine (rclean _ _ _ _).mono ?_; rintro e w' ⟨rfl, hb⟩)
        | (go_at_call 14; refine (lsame _ _ _ _).mono ?_; rintro e w' ⟨rfl, hb⟩))
    go_wp2
    go_ret
    go_split_ands
    exact ⟨rfl, by assumption⟩
end Go.Proofs.Ytdhfpfkhhmdfgaa
