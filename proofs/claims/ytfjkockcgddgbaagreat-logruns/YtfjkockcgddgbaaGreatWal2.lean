/- package wal: commits: their text, the next one, what a slot tells -/
import Derived.Test.YtfjkockcgddgbaaGreatWal1
namespace Go.Proofs.YtfjkockcgddgbaaGreat
open Go.RowKit Go.Lib
attribute [local go_sem ↓] Go.wp_at_zero Go.wp_at_succ
structure Cm where
  slot : Nat
  number : Nat
  frames : Nat
  pages : Nat
def cmV (c : Cm) : Value := (.agg #[.int .i64 ((c.slot : Int)), .int .i64 ((c.number : Int)), .int .i64 ((c.frames : Int)), .int .i64 ((c.pages : Int))])
def cm0 : Cm := ⟨0, 0, 0, 0⟩
def halfB (n f p : Nat) : ByteArray := fourB n ++ fourB f ++ fourB p
def txtB (n f p : Nat) : ByteArray := halfB n f p ++ halfB n f p
theorem fourB_size (n : Nat) : (fourB n).size = 4 := rfl
theorem halfB_size (n f p : Nat) : (halfB n f p).size = 12 := by unfold halfB; simp [ByteArray.size_append, fourB_size]
theorem txtB_size (n f p : Nat) : (txtB n f p).size = 24 := by unfold txtB; simp [ByteArray.size_append, halfB_size]
set_option maxRecDepth 20000 in
set_option maxHeartbeats 1000000 in
theorem ctext (s n f p : Nat) (w : World) : Calls Tryz.prog 90 #[(.agg #[.int .i64 ((s : Int)), .int .i64 ((n : Int)), .int .i64 ((f : Int)), .int .i64 ((p : Int))])] w fun e w' => e = .returned (.string (txtB n f p)) ∧ Below w.heap.size w w' := by
  have HT : Hid (txtB n f p = (fourB n ++ fourB f ++ fourB p) ++ (fourB n ++ fourB f ++ fourB p)) := rfl
  have s1 := fourB_size n
  have s2 := fourB_size f
  have s3 := fourB_size p
  go_enter Tryz.func90, Tryz.ntmps90
  go_upto_region 1 with fail
  go_region_held3 (fun w' => Below w.heap.size w w' ∧ w.heap.size < w'.heap.size ∧ w'.cell? ⟨w.heap.size, 0, none⟩ = some (.int .i64 ((s : Int))) ∧ w'.cell? ⟨w.heap.size, 1, none⟩ = some (.int .i64 ((n : Int))) ∧ w'.cell? ⟨w.heap.size, 2, none⟩ = some (.int .i64 ((f : Int))) ∧ w'.cell? ⟨w.heap.size, 3, none⟩ = some (.int .i64 ((p : Int)))) (first | (refine ⟨((Below.refl _ _).alloc (Nat.le_refl _) _).drew, ?_⟩; go_keep) | (go_split_ands; and_intros <;> assumption) | (go_split_ands; exact ⟨keepBelow (by assumption) hb, keepSize hb (by assumption), keepCell hb (by assumption) (by assumption), keepCell hb (by assumption) (by assumption), keepCell hb (by assumption) (by assumption), keepCell hb (by assumption) (by assumption)⟩))
    (first | (go_at_call 59; refine (cfour _ _).mono ?_; rintro e w' ⟨rfl, hb⟩))
  go_wp2
  go_ret
  go_split_ands
  exact ⟨by rw [HT.out]; rfl, by assumption⟩
set_option maxRecDepth 20000 in
set_option maxHeartbeats 1000000 in
theorem cfollowing (s n f p fr pg : Nat) (w : World) (hs : s ≤ 1) (hn : n ≤ 4294967296) : Calls Tryz.prog 99 #[(.agg #[.int .i64 ((s : Int)), .int .i64 ((n : Int)), .int .i64 ((f : Int)), .int .i64 ((p : Int))]), .int .i64 fr, .int .i64 pg] w fun e w' => e = .returned (.agg #[.int .i64 (((1 - s : Nat) : Int)), .int .i64 ((nxN n : Nat)), .int .i64 ((fr : Int)), .int .i64 ((pg : Int))]) ∧ Below w.heap.size w w' := by
  have hs1 : ((1 - s : Nat) : Int) = 1 - (s : Int) := by omega
  have hwr : IntKind.i64.wrap (1 - (s : Int)) = 1 - (s : Int) := by rw [IntKind.wrap_i64]; omega
  rw [hs1]
  go_enter Tryz.func99, Tryz.ntmps99
  go_wp2_with fail
  go_region_with (first | (go_at_call 85; refine (cnext _ _ hn).mono ?_; rintro e w2 ⟨rfl, rfl⟩))
  all_goals
    go_wp2
    refine bodyPost_ret (v := (.agg #[.int .i64 (1 - (s : Int)), .int .i64 ((nxN n : Nat)), .int .i64 ((fr : Int)), .int .i64 ((pg : Int))])) (by simp [results, Tryz.results99, go_sem, *]) rfl ⟨rfl, ?_⟩
    exact (((Below.refl _ _).alloc (Nat.le_refl _) _).alloc (by simp) _).drew
def toldA (head : ByteArray) (p slot size : Nat) : Cm :=
  if head.size < p + 24 then cm0
  else if ¬ (1 ≤ numB head p ∧ numB head p ≤ 3) then cm0
  else if ¬ txtB (numB head p) (numB head (p + 4)) (numB head (p + 8)) = head.extract p (p + 24) then cm0
  else if 0 < numB head (p + 4) ∧ size < 64 + 1028 * numB head (p + 4) then cm0
  else ⟨slot, numB head p, numB head (p + 4), numB head (p + 8)⟩
def toldC (head : ByteArray) (slot size : Nat) : Cm := toldA head (16 + 24 * slot) slot size
theorem ne_lists {s t : ByteArray} (h : ¬ s = t) : ¬ s.toList = t.toList := by
  rw [ByteArray.toList_eq, ByteArray.toList_eq]
  intro e
  apply h
  exact Go.WideShapes.bytes_inj e
set_option maxRecDepth 20000 in
set_option maxHeartbeats 2000000 in
theorem ctold0 (head : ByteArray) (size : Nat) (w : World) (hh : head.size ≤ 1000000) :
    Calls Tryz.prog 84 #[.string head, .int .i64 0, .int .i64 size] w fun e w' => e = .returned (cmV (toldA head 16 0 size)) ∧ Below w.heap.size w w' := by
  by_cases h1 : head.size < 40
  · have HT : Hid (toldA head 16 0 size = cm0) := if_pos h1
    go_enter Tryz.func84, Tryz.ntmps84
    go_wp2_with fail
    refine (cslotAt 0 _ (by omega) (by omega)).mono ?_
    rintro e w2 ⟨rfl, rfl⟩
    have h2 : (head.size : Int) < 40 := by omega
    go_wp2
    refine bodyPost_ret (v := (.agg #[.int .i64 (0), .int .i64 (0), .int .i64 (0), .int .i64 (0)])) (by simp [results, Tryz.results84, go_sem, *]) rfl ⟨by rw [HT.out]; rfl, ?_⟩
    exact ((Below.refl _ _).alloc (Nat.le_refl _) _)
  have h2 : ¬ (head.size : Int) < 40 := by omega
  have HA : Hid (16 + 4 ≤ head.size) := (by omega : 16 + 4 ≤ head.size)
  have HB : Hid (20 + 4 ≤ head.size) := (by omega : 20 + 4 ≤ head.size)
  have HC : Hid (24 + 4 ≤ head.size) := (by omega : 24 + 4 ≤ head.size)
  have HH : Hid (head.size ≤ 1099511627776) := (by omega : head.size ≤ 1099511627776)
  have HE : toldA head 16 0 size = if ¬ (1 ≤ numB head 16 ∧ numB head 16 ≤ 3) then cm0 else if ¬ txtB (numB head 16) (numB head 20) (numB head 24) = head.extract 16 40 then cm0 else if 0 < numB head 20 ∧ size < 64 + 1028 * numB head 20 then cm0 else ⟨0, numB head 16, numB head 20, numB head 24⟩ := if_neg h1
  have ba := numB_lt head 16
  have bf := numB_lt head 20
  have bp := numB_lt head 24
  by_cases c1 : numB head 16 < 1
  · have HT : Hid (toldA head 16 0 size = cm0) := HE.trans (if_pos (by omega))
    clear HE
    go_enter Tryz.func84, Tryz.ntmps84
    go_wp2_with fail
    refine (cslotAt 0 _ (by omega) (by omega)).mono ?_
    rintro e w2 ⟨rfl, rfl⟩
    go_wp2_with fail
    refine (cnumber head 16 _ HA.out HH.out).mono ?_
    rintro e w2 ⟨rfl, rfl⟩
    go_wp2_with fail
    refine (cnumber head 20 _ HB.out HH.out).mono ?_
    rintro e w2 ⟨rfl, rfl⟩
    go_wp2_with fail
    refine (cnumber head 24 _ HC.out HH.out).mono ?_
    rintro e w2 ⟨rfl, rfl⟩
    generalize numB head 16 = a at *
    generalize numB head 20 = f at *
    generalize numB head 24 = p at *
    have i1 : (a : Int) < 1 := by omega
    go_upto_region 5 with fail
    go_quiet (fail)
    go_wp2
    refine bodyPost_ret (v := (.agg #[.int .i64 (0), .int .i64 (0), .int .i64 (0), .int .i64 (0)])) (by simp [results, Tryz.results84, go_sem, *]) rfl ⟨by rw [HT.out]; rfl, ?_⟩
    exact (((((below_dw (((Below.refl _ _).alloc (Nat.le_refl _) _).alloc (by simp) _))).setCell (by simp <;> omega) _).setCell (by simp <;> omega) _).setCell (by simp <;> omega) _).setCell (by simp <;> omega) _
  by_cases c2 : 3 < numB head 16
  · have HT : Hid (toldA head 16 0 size = cm0) := HE.trans (if_pos (by omega))
    clear HE
    go_enter Tryz.func84, Tryz.ntmps84
    go_wp2_with fail
    refine (cslotAt 0 _ (by omega) (by omega)).mono ?_
    rintro e w2 ⟨rfl, rfl⟩
    go_wp2_with fail
    refine (cnumber head 16 _ HA.out HH.out).mono ?_
    rintro e w2 ⟨rfl, rfl⟩
    go_wp2_with fail
    refine (cnumber head 20 _ HB.out HH.out).mono ?_
    rintro e w2 ⟨rfl, rfl⟩
    go_wp2_with fail
    refine (cnumber head 24 _ HC.out HH.out).mono ?_
    rintro e w2 ⟨rfl, rfl⟩
    generalize numB head 16 = a at *
    generalize numB head 20 = f at *
    generalize numB head 24 = p at *
    have j1 : decide ((a : Int) < 1) = false := decide_eq_false (by omega)
    have j2 : decide ((3 : Int) < (a : Int)) = true := decide_eq_true (by omega)
    go_upto_region 5 with fail
    go_quiet (fail)
    go_wp2
    refine bodyPost_ret (v := (.agg #[.int .i64 (0), .int .i64 (0), .int .i64 (0), .int .i64 (0)])) (by simp [results, Tryz.results84, go_sem, *]) rfl ⟨by rw [HT.out]; rfl, ?_⟩
    exact (((((below_dw (((Below.refl _ _).alloc (Nat.le_refl _) _).alloc (by simp) _))).setCell (by simp <;> omega) _).setCell (by simp <;> omega) _).setCell (by simp <;> omega) _).setCell (by simp <;> omega) _
  by_cases c3 : ¬ txtB (numB head 16) (numB head 20) (numB head 24) = head.extract 16 40
  · have HT : Hid (toldA head 16 0 size = cm0) := HE.trans (by rw [if_neg (by omega), if_pos c3])
    clear HE
    go_enter Tryz.func84, Tryz.ntmps84
    go_wp2_with fail
    refine (cslotAt 0 _ (by omega) (by omega)).mono ?_
    rintro e w2 ⟨rfl, rfl⟩
    go_wp2_with fail
    refine (cnumber head 16 _ HA.out HH.out).mono ?_
    rintro e w2 ⟨rfl, rfl⟩
    go_wp2_with fail
    refine (cnumber head 20 _ HB.out HH.out).mono ?_
    rintro e w2 ⟨rfl, rfl⟩
    go_wp2_with fail
    refine (cnumber head 24 _ HC.out HH.out).mono ?_
    rintro e w2 ⟨rfl, rfl⟩
    generalize numB head 16 = a at *
    generalize numB head 20 = f at *
    generalize numB head 24 = p at *
    have hwr : IntKind.i64.wrap 40 = 40 := by decide
    have hsl : ∀ X, (Instr.slice 9 (.string head) (some (.int .i64 16)) (some (.int .i64 40)) none).run Tryz.prog X = .ok (.string (head.extract 16 40)) X := fun X => slice_lit head 16 40 (by omega) (by omega) X
    have j1 : decide ((a : Int) < 1) = false := decide_eq_false (by omega)
    have j2 : decide ((3 : Int) < (a : Int)) = false := decide_eq_false (by omega)
    have n3 := ne_lists c3
    have m3 : ((txtB a f p).toList == (head.extract 16 40).toList) = false := by simpa using n3
    clear h1 h2 HA HB HC HH hh
    go_upto_region 5 with fail
    go_region_held3 (fun w' => Below w.heap.size w w' ∧ w.heap.size + 1 < w'.heap.size ∧ w'.cell? ⟨w.heap.size, 0, none⟩ = some (.int .i64 (0)) ∧ w'.cell? ⟨w.heap.size, 1, none⟩ = some (.int .i64 (0)) ∧ w'.cell? ⟨w.heap.size, 2, none⟩ = some (.int .i64 (0)) ∧ w'.cell? ⟨w.heap.size, 3, none⟩ = some (.int .i64 (0)) ∧ w'.cell? ⟨w.heap.size + 1, 0, none⟩ = some (.int .i64 (0)) ∧ w'.cell? ⟨w.heap.size + 1, 1, none⟩ = some (.int .i64 ((a : Int))) ∧ w'.cell? ⟨w.heap.size + 1, 2, none⟩ = some (.int .i64 ((f : Int))) ∧ w'.cell? ⟨w.heap.size + 1, 3, none⟩ = some (.int .i64 ((p : Int)))) (first | (refine ⟨(((Below.refl _ _).alloc (Nat.le_refl _) _).alloc (by simp) _).drew, ?_⟩; go_keep) | (go_split_ands; and_intros <;> assumption) | (go_split_ands; exact ⟨keepBelow (by assumption) hb, keepSize hb (by assumption), keepCell hb (Nat.lt_of_succ_lt (by assumption)) (by assumption), keepCell hb (Nat.lt_of_succ_lt (by assumption)) (by assumption), keepCell hb (Nat.lt_of_succ_lt (by assumption)) (by assumption), keepCell hb (Nat.lt_of_succ_lt (by assumption)) (by assumption), keepCell hb (by assumption) (by assumption), keepCell hb (by assumption) (by assumption), keepCell hb (by assumption) (by assumption), keepCell hb (by assumption) (by assumption)⟩))
      (first | (go_at_call 90; refine (ctext 0 a f p _).mono ?_; rintro e w' ⟨rfl, hb⟩))
    go_split_ands
    obtain ⟨hc1, hf1⟩ := bcell hb
    have HB9 : Hid (Below w.heap.size w w') := by show Below w.heap.size w w'; assumption
    clear hb
    go_wp2
    refine bodyPost_ret (v := (.agg #[.int .i64 (0), .int .i64 (0), .int .i64 (0), .int .i64 (0)])) (by simp [results, Tryz.results84, go_sem, *]) rfl ⟨by rw [HT.out]; rfl, ?_⟩
    exact ((((HB9.out).setCell (by simp <;> omega) _).setCell (by simp <;> omega) _).setCell (by simp <;> omega) _).setCell (by simp <;> omega) _
  have c3 := Classical.not_not.1 c3
  by_cases c4 : 0 < numB head 20
  · by_cases c5 : size < 64 + 1028 * numB head 20
    · have HT : Hid (toldA head 16 0 size = cm0) := HE.trans (by rw [if_neg (by omega), if_neg (fun h => h c3), if_pos ⟨c4, c5⟩])
      clear HE
      go_enter Tryz.func84, Tryz.ntmps84
      go_wp2_with fail
      refine (cslotAt 0 _ (by omega) (by omega)).mono ?_
      rintro e w2 ⟨rfl, rfl⟩
      go_wp2_with fail
      refine (cnumber head 16 _ HA.out HH.out).mono ?_
      rintro e w2 ⟨rfl, rfl⟩
      go_wp2_with fail
      refine (cnumber head 20 _ HB.out HH.out).mono ?_
      rintro e w2 ⟨rfl, rfl⟩
      go_wp2_with fail
      refine (cnumber head 24 _ HC.out HH.out).mono ?_
      rintro e w2 ⟨rfl, rfl⟩
      generalize numB head 16 = a at *
      generalize numB head 20 = f at *
      generalize numB head 24 = p at *
      have hwr : IntKind.i64.wrap 40 = 40 := by decide
      have hsl : ∀ X, (Instr.slice 9 (.string head) (some (.int .i64 16)) (some (.int .i64 40)) none).run Tryz.prog X = .ok (.string (head.extract 16 40)) X := fun X => slice_lit head 16 40 (by omega) (by omega) X
      have j1 : decide ((a : Int) < 1) = false := decide_eq_false (by omega)
      have j2 : decide ((3 : Int) < (a : Int)) = false := decide_eq_false (by omega)
      have i4 : (0 : Int) < (f : Int) := by omega
      have i5 : (size : Int) < 64 + 1028 * (f : Int) := by omega
      clear h1 h2 HA HB HC HH hh
      go_upto_region 5 with fail
      go_region_held3 (fun w' => Below w.heap.size w w' ∧ w.heap.size + 1 < w'.heap.size ∧ w'.cell? ⟨w.heap.size, 0, none⟩ = some (.int .i64 (0)) ∧ w'.cell? ⟨w.heap.size, 1, none⟩ = some (.int .i64 (0)) ∧ w'.cell? ⟨w.heap.size, 2, none⟩ = some (.int .i64 (0)) ∧ w'.cell? ⟨w.heap.size, 3, none⟩ = some (.int .i64 (0)) ∧ w'.cell? ⟨w.heap.size + 1, 0, none⟩ = some (.int .i64 (0)) ∧ w'.cell? ⟨w.heap.size + 1, 1, none⟩ = some (.int .i64 ((a : Int))) ∧ w'.cell? ⟨w.heap.size + 1, 2, none⟩ = some (.int .i64 ((f : Int))) ∧ w'.cell? ⟨w.heap.size + 1, 3, none⟩ = some (.int .i64 ((p : Int)))) (first | (refine ⟨(((Below.refl _ _).alloc (Nat.le_refl _) _).alloc (by simp) _).drew, ?_⟩; go_keep) | (go_split_ands; and_intros <;> assumption) | (go_split_ands; exact ⟨keepBelow (by assumption) hb, keepSize hb (by assumption), keepCell hb (Nat.lt_of_succ_lt (by assumption)) (by assumption), keepCell hb (Nat.lt_of_succ_lt (by assumption)) (by assumption), keepCell hb (Nat.lt_of_succ_lt (by assumption)) (by assumption), keepCell hb (Nat.lt_of_succ_lt (by assumption)) (by assumption), keepCell hb (by assumption) (by assumption), keepCell hb (by assumption) (by assumption), keepCell hb (by assumption) (by assumption), keepCell hb (by assumption) (by assumption)⟩))
        (first | (go_at_call 90; refine (ctext 0 a f p _).mono ?_; rintro e w' ⟨rfl, hb⟩))
      go_split_ands
      obtain ⟨hc1, hf1⟩ := bcell hb
      have HB9 : Hid (Below w.heap.size w w') := by show Below w.heap.size w w'; assumption
      clear hb
      go_wp2_with fail
      refine (cframeAt f _ (by omega) (by omega)).mono ?_
      rintro e w3 ⟨rfl, rfl⟩
      go_wp2
      refine bodyPost_ret (v := (.agg #[.int .i64 (0), .int .i64 (0), .int .i64 (0), .int .i64 (0)])) (by simp [results, Tryz.results84, go_sem, *]) rfl ⟨by rw [HT.out]; rfl, ?_⟩
      exact ((((HB9.out).setCell (by simp <;> omega) _).setCell (by simp <;> omega) _).setCell (by simp <;> omega) _).setCell (by simp <;> omega) _
    · have HT : Hid (toldA head 16 0 size = (⟨0, numB head 16, numB head 20, numB head 24⟩ : Cm)) := HE.trans (by rw [if_neg (by omega), if_neg (fun h => h c3), if_neg (fun h => c5 h.2)])
      clear HE
      go_enter Tryz.func84, Tryz.ntmps84
      go_wp2_with fail
      refine (cslotAt 0 _ (by omega) (by omega)).mono ?_
      rintro e w2 ⟨rfl, rfl⟩
      go_wp2_with fail
      refine (cnumber head 16 _ HA.out HH.out).mono ?_
      rintro e w2 ⟨rfl, rfl⟩
      go_wp2_with fail
      refine (cnumber head 20 _ HB.out HH.out).mono ?_
      rintro e w2 ⟨rfl, rfl⟩
      go_wp2_with fail
      refine (cnumber head 24 _ HC.out HH.out).mono ?_
      rintro e w2 ⟨rfl, rfl⟩
      generalize numB head 16 = a at *
      generalize numB head 20 = f at *
      generalize numB head 24 = p at *
      have hwr : IntKind.i64.wrap 40 = 40 := by decide
      have hsl : ∀ X, (Instr.slice 9 (.string head) (some (.int .i64 16)) (some (.int .i64 40)) none).run Tryz.prog X = .ok (.string (head.extract 16 40)) X := fun X => slice_lit head 16 40 (by omega) (by omega) X
      have j1 : decide ((a : Int) < 1) = false := decide_eq_false (by omega)
      have j2 : decide ((3 : Int) < (a : Int)) = false := decide_eq_false (by omega)
      have i4 : (0 : Int) < (f : Int) := by omega
      have i5 : ¬ (size : Int) < 64 + 1028 * (f : Int) := by omega
      clear h1 h2 HA HB HC HH hh
      go_upto_region 5 with fail
      go_region_held3 (fun w' => Below w.heap.size w w' ∧ w.heap.size + 1 < w'.heap.size ∧ w'.cell? ⟨w.heap.size, 0, none⟩ = some (.int .i64 (0)) ∧ w'.cell? ⟨w.heap.size, 1, none⟩ = some (.int .i64 (0)) ∧ w'.cell? ⟨w.heap.size, 2, none⟩ = some (.int .i64 (0)) ∧ w'.cell? ⟨w.heap.size, 3, none⟩ = some (.int .i64 (0)) ∧ w'.cell? ⟨w.heap.size + 1, 0, none⟩ = some (.int .i64 (0)) ∧ w'.cell? ⟨w.heap.size + 1, 1, none⟩ = some (.int .i64 ((a : Int))) ∧ w'.cell? ⟨w.heap.size + 1, 2, none⟩ = some (.int .i64 ((f : Int))) ∧ w'.cell? ⟨w.heap.size + 1, 3, none⟩ = some (.int .i64 ((p : Int)))) (first | (refine ⟨(((Below.refl _ _).alloc (Nat.le_refl _) _).alloc (by simp) _).drew, ?_⟩; go_keep) | (go_split_ands; and_intros <;> assumption) | (go_split_ands; exact ⟨keepBelow (by assumption) hb, keepSize hb (by assumption), keepCell hb (Nat.lt_of_succ_lt (by assumption)) (by assumption), keepCell hb (Nat.lt_of_succ_lt (by assumption)) (by assumption), keepCell hb (Nat.lt_of_succ_lt (by assumption)) (by assumption), keepCell hb (Nat.lt_of_succ_lt (by assumption)) (by assumption), keepCell hb (by assumption) (by assumption), keepCell hb (by assumption) (by assumption), keepCell hb (by assumption) (by assumption), keepCell hb (by assumption) (by assumption)⟩))
        (first | (go_at_call 90; refine (ctext 0 a f p _).mono ?_; rintro e w' ⟨rfl, hb⟩))
      go_split_ands
      obtain ⟨hc1, hf1⟩ := bcell hb
      have HB9 : Hid (Below w.heap.size w w') := by show Below w.heap.size w w'; assumption
      clear hb
      go_wp2_with fail
      refine (cframeAt f _ (by omega) (by omega)).mono ?_
      rintro e w3 ⟨rfl, rfl⟩
      go_wp2
      refine bodyPost_ret (v := (.agg #[.int .i64 (0), .int .i64 ((a : Int)), .int .i64 ((f : Int)), .int .i64 ((p : Int))])) (by simp [results, Tryz.results84, go_sem, *]) rfl ⟨by rw [HT.out]; rfl, ?_⟩
      exact ((((HB9.out).setCell (by simp <;> omega) _).setCell (by simp <;> omega) _).setCell (by simp <;> omega) _).setCell (by simp <;> omega) _
  · have HT : Hid (toldA head 16 0 size = (⟨0, numB head 16, numB head 20, numB head 24⟩ : Cm)) := HE.trans (by rw [if_neg (by omega), if_neg (fun h => h c3), if_neg (fun h => c4 h.1)])
    clear HE
    go_enter Tryz.func84, Tryz.ntmps84
    go_wp2_with fail
    refine (cslotAt 0 _ (by omega) (by omega)).mono ?_
    rintro e w2 ⟨rfl, rfl⟩
    go_wp2_with fail
    refine (cnumber head 16 _ HA.out HH.out).mono ?_
    rintro e w2 ⟨rfl, rfl⟩
    go_wp2_with fail
    refine (cnumber head 20 _ HB.out HH.out).mono ?_
    rintro e w2 ⟨rfl, rfl⟩
    go_wp2_with fail
    refine (cnumber head 24 _ HC.out HH.out).mono ?_
    rintro e w2 ⟨rfl, rfl⟩
    generalize numB head 16 = a at *
    generalize numB head 20 = f at *
    generalize numB head 24 = p at *
    have hwr : IntKind.i64.wrap 40 = 40 := by decide
    have hsl : ∀ X, (Instr.slice 9 (.string head) (some (.int .i64 16)) (some (.int .i64 40)) none).run Tryz.prog X = .ok (.string (head.extract 16 40)) X := fun X => slice_lit head 16 40 (by omega) (by omega) X
    have j1 : decide ((a : Int) < 1) = false := decide_eq_false (by omega)
    have j2 : decide ((3 : Int) < (a : Int)) = false := decide_eq_false (by omega)
    have i4 : ¬ (0 : Int) < (f : Int) := by omega
    clear h1 h2 HA HB HC HH hh
    go_upto_region 5 with fail
    go_region_held3 (fun w' => Below w.heap.size w w' ∧ w.heap.size + 1 < w'.heap.size ∧ w'.cell? ⟨w.heap.size, 0, none⟩ = some (.int .i64 (0)) ∧ w'.cell? ⟨w.heap.size, 1, none⟩ = some (.int .i64 (0)) ∧ w'.cell? ⟨w.heap.size, 2, none⟩ = some (.int .i64 (0)) ∧ w'.cell? ⟨w.heap.size, 3, none⟩ = some (.int .i64 (0)) ∧ w'.cell? ⟨w.heap.size + 1, 0, none⟩ = some (.int .i64 (0)) ∧ w'.cell? ⟨w.heap.size + 1, 1, none⟩ = some (.int .i64 ((a : Int))) ∧ w'.cell? ⟨w.heap.size + 1, 2, none⟩ = some (.int .i64 ((f : Int))) ∧ w'.cell? ⟨w.heap.size + 1, 3, none⟩ = some (.int .i64 ((p : Int)))) (first | (refine ⟨(((Below.refl _ _).alloc (Nat.le_refl _) _).alloc (by simp) _).drew, ?_⟩; go_keep) | (go_split_ands; and_intros <;> assumption) | (go_split_ands; exact ⟨keepBelow (by assumption) hb, keepSize hb (by assumption), keepCell hb (Nat.lt_of_succ_lt (by assumption)) (by assumption), keepCell hb (Nat.lt_of_succ_lt (by assumption)) (by assumption), keepCell hb (Nat.lt_of_succ_lt (by assumption)) (by assumption), keepCell hb (Nat.lt_of_succ_lt (by assumption)) (by assumption), keepCell hb (by assumption) (by assumption), keepCell hb (by assumption) (by assumption), keepCell hb (by assumption) (by assumption), keepCell hb (by assumption) (by assumption)⟩))
      (first | (go_at_call 90; refine (ctext 0 a f p _).mono ?_; rintro e w' ⟨rfl, hb⟩))
    go_split_ands
    obtain ⟨hc1, hf1⟩ := bcell hb
    have HB9 : Hid (Below w.heap.size w w') := by show Below w.heap.size w w'; assumption
    clear hb
    go_wp2
    refine bodyPost_ret (v := (.agg #[.int .i64 (0), .int .i64 ((a : Int)), .int .i64 ((f : Int)), .int .i64 ((p : Int))])) (by simp [results, Tryz.results84, go_sem, *]) rfl ⟨by rw [HT.out]; rfl, ?_⟩
    exact ((((HB9.out).setCell (by simp <;> omega) _).setCell (by simp <;> omega) _).setCell (by simp <;> omega) _).setCell (by simp <;> omega) _
set_option maxRecDepth 20000 in
set_option maxHeartbeats 2000000 in
theorem ctold1 (head : ByteArray) (size : Nat) (w : World) (hh : head.size ≤ 1000000) :
    Calls Tryz.prog 84 #[.string head, .int .i64 1, .int .i64 size] w fun e w' => e = .returned (cmV (toldA head 40 1 size)) ∧ Below w.heap.size w w' := by
  by_cases h1 : head.size < 64
  · have HT : Hid (toldA head 40 1 size = cm0) := if_pos h1
    go_enter Tryz.func84, Tryz.ntmps84
    go_wp2_with fail
    refine (cslotAt 1 _ (by omega) (by omega)).mono ?_
    rintro e w2 ⟨rfl, rfl⟩
    have h2 : (head.size : Int) < 64 := by omega
    go_wp2
    refine bodyPost_ret (v := (.agg #[.int .i64 (0), .int .i64 (0), .int .i64 (0), .int .i64 (0)])) (by simp [results, Tryz.results84, go_sem, *]) rfl ⟨by rw [HT.out]; rfl, ?_⟩
    exact ((Below.refl _ _).alloc (Nat.le_refl _) _)
  have h2 : ¬ (head.size : Int) < 64 := by omega
  have HA : Hid (40 + 4 ≤ head.size) := (by omega : 40 + 4 ≤ head.size)
  have HB : Hid (44 + 4 ≤ head.size) := (by omega : 44 + 4 ≤ head.size)
  have HC : Hid (48 + 4 ≤ head.size) := (by omega : 48 + 4 ≤ head.size)
  have HH : Hid (head.size ≤ 1099511627776) := (by omega : head.size ≤ 1099511627776)
  have HE : toldA head 40 1 size = if ¬ (1 ≤ numB head 40 ∧ numB head 40 ≤ 3) then cm0 else if ¬ txtB (numB head 40) (numB head 44) (numB head 48) = head.extract 40 64 then cm0 else if 0 < numB head 44 ∧ size < 64 + 1028 * numB head 44 then cm0 else ⟨1, numB head 40, numB head 44, numB head 48⟩ := if_neg h1
  have ba := numB_lt head 40
  have bf := numB_lt head 44
  have bp := numB_lt head 48
  by_cases c1 : numB head 40 < 1
  · have HT : Hid (toldA head 40 1 size = cm0) := HE.trans (if_pos (by omega))
    clear HE
    go_enter Tryz.func84, Tryz.ntmps84
    go_wp2_with fail
    refine (cslotAt 1 _ (by omega) (by omega)).mono ?_
    rintro e w2 ⟨rfl, rfl⟩
    go_wp2_with fail
    refine (cnumber head 40 _ HA.out HH.out).mono ?_
    rintro e w2 ⟨rfl, rfl⟩
    go_wp2_with fail
    refine (cnumber head 44 _ HB.out HH.out).mono ?_
    rintro e w2 ⟨rfl, rfl⟩
    go_wp2_with fail
    refine (cnumber head 48 _ HC.out HH.out).mono ?_
    rintro e w2 ⟨rfl, rfl⟩
    generalize numB head 40 = a at *
    generalize numB head 44 = f at *
    generalize numB head 48 = p at *
    have i1 : (a : Int) < 1 := by omega
    go_upto_region 5 with fail
    go_quiet (fail)
    go_wp2
    refine bodyPost_ret (v := (.agg #[.int .i64 (0), .int .i64 (0), .int .i64 (0), .int .i64 (0)])) (by simp [results, Tryz.results84, go_sem, *]) rfl ⟨by rw [HT.out]; rfl, ?_⟩
    exact (((((below_dw (((Below.refl _ _).alloc (Nat.le_refl _) _).alloc (by simp) _))).setCell (by simp <;> omega) _).setCell (by simp <;> omega) _).setCell (by simp <;> omega) _).setCell (by simp <;> omega) _
  by_cases c2 : 3 < numB head 40
  · have HT : Hid (toldA head 40 1 size = cm0) := HE.trans (if_pos (by omega))
    clear HE
    go_enter Tryz.func84, Tryz.ntmps84
    go_wp2_with fail
    refine (cslotAt 1 _ (by omega) (by omega)).mono ?_
    rintro e w2 ⟨rfl, rfl⟩
    go_wp2_with fail
    refine (cnumber head 40 _ HA.out HH.out).mono ?_
    rintro e w2 ⟨rfl, rfl⟩
    go_wp2_with fail
    refine (cnumber head 44 _ HB.out HH.out).mono ?_
    rintro e w2 ⟨rfl, rfl⟩
    go_wp2_with fail
    refine (cnumber head 48 _ HC.out HH.out).mono ?_
    rintro e w2 ⟨rfl, rfl⟩
    generalize numB head 40 = a at *
    generalize numB head 44 = f at *
    generalize numB head 48 = p at *
    have j1 : decide ((a : Int) < 1) = false := decide_eq_false (by omega)
    have j2 : decide ((3 : Int) < (a : Int)) = true := decide_eq_true (by omega)
    go_upto_region 5 with fail
    go_quiet (fail)
    go_wp2
    refine bodyPost_ret (v := (.agg #[.int .i64 (0), .int .i64 (0), .int .i64 (0), .int .i64 (0)])) (by simp [results, Tryz.results84, go_sem, *]) rfl ⟨by rw [HT.out]; rfl, ?_⟩
    exact (((((below_dw (((Below.refl _ _).alloc (Nat.le_refl _) _).alloc (by simp) _))).setCell (by simp <;> omega) _).setCell (by simp <;> omega) _).setCell (by simp <;> omega) _).setCell (by simp <;> omega) _
  by_cases c3 : ¬ txtB (numB head 40) (numB head 44) (numB head 48) = head.extract 40 64
  · have HT : Hid (toldA head 40 1 size = cm0) := HE.trans (by rw [if_neg (by omega), if_pos c3])
    clear HE
    go_enter Tryz.func84, Tryz.ntmps84
    go_wp2_with fail
    refine (cslotAt 1 _ (by omega) (by omega)).mono ?_
    rintro e w2 ⟨rfl, rfl⟩
    go_wp2_with fail
    refine (cnumber head 40 _ HA.out HH.out).mono ?_
    rintro e w2 ⟨rfl, rfl⟩
    go_wp2_with fail
    refine (cnumber head 44 _ HB.out HH.out).mono ?_
    rintro e w2 ⟨rfl, rfl⟩
    go_wp2_with fail
    refine (cnumber head 48 _ HC.out HH.out).mono ?_
    rintro e w2 ⟨rfl, rfl⟩
    generalize numB head 40 = a at *
    generalize numB head 44 = f at *
    generalize numB head 48 = p at *
    have hwr : IntKind.i64.wrap 64 = 64 := by decide
    have hsl : ∀ X, (Instr.slice 9 (.string head) (some (.int .i64 40)) (some (.int .i64 64)) none).run Tryz.prog X = .ok (.string (head.extract 40 64)) X := fun X => slice_lit head 40 64 (by omega) (by omega) X
    have j1 : decide ((a : Int) < 1) = false := decide_eq_false (by omega)
    have j2 : decide ((3 : Int) < (a : Int)) = false := decide_eq_false (by omega)
    have n3 := ne_lists c3
    have m3 : ((txtB a f p).toList == (head.extract 40 64).toList) = false := by simpa using n3
    clear h1 h2 HA HB HC HH hh
    go_upto_region 5 with fail
    go_region_held3 (fun w' => Below w.heap.size w w' ∧ w.heap.size + 1 < w'.heap.size ∧ w'.cell? ⟨w.heap.size, 0, none⟩ = some (.int .i64 (0)) ∧ w'.cell? ⟨w.heap.size, 1, none⟩ = some (.int .i64 (0)) ∧ w'.cell? ⟨w.heap.size, 2, none⟩ = some (.int .i64 (0)) ∧ w'.cell? ⟨w.heap.size, 3, none⟩ = some (.int .i64 (0)) ∧ w'.cell? ⟨w.heap.size + 1, 0, none⟩ = some (.int .i64 (1)) ∧ w'.cell? ⟨w.heap.size + 1, 1, none⟩ = some (.int .i64 ((a : Int))) ∧ w'.cell? ⟨w.heap.size + 1, 2, none⟩ = some (.int .i64 ((f : Int))) ∧ w'.cell? ⟨w.heap.size + 1, 3, none⟩ = some (.int .i64 ((p : Int)))) (first | (refine ⟨(((Below.refl _ _).alloc (Nat.le_refl _) _).alloc (by simp) _).drew, ?_⟩; go_keep) | (go_split_ands; and_intros <;> assumption) | (go_split_ands; exact ⟨keepBelow (by assumption) hb, keepSize hb (by assumption), keepCell hb (Nat.lt_of_succ_lt (by assumption)) (by assumption), keepCell hb (Nat.lt_of_succ_lt (by assumption)) (by assumption), keepCell hb (Nat.lt_of_succ_lt (by assumption)) (by assumption), keepCell hb (Nat.lt_of_succ_lt (by assumption)) (by assumption), keepCell hb (by assumption) (by assumption), keepCell hb (by assumption) (by assumption), keepCell hb (by assumption) (by assumption), keepCell hb (by assumption) (by assumption)⟩))
      (first | (go_at_call 90; refine (ctext 1 a f p _).mono ?_; rintro e w' ⟨rfl, hb⟩))
    go_split_ands
    obtain ⟨hc1, hf1⟩ := bcell hb
    have HB9 : Hid (Below w.heap.size w w') := by show Below w.heap.size w w'; assumption
    clear hb
    go_wp2
    refine bodyPost_ret (v := (.agg #[.int .i64 (0), .int .i64 (0), .int .i64 (0), .int .i64 (0)])) (by simp [results, Tryz.results84, go_sem, *]) rfl ⟨by rw [HT.out]; rfl, ?_⟩
    exact ((((HB9.out).setCell (by simp <;> omega) _).setCell (by simp <;> omega) _).setCell (by simp <;> omega) _).setCell (by simp <;> omega) _
  have c3 := Classical.not_not.1 c3
  by_cases c4 : 0 < numB head 44
  · by_cases c5 : size < 64 + 1028 * numB head 44
    · have HT : Hid (toldA head 40 1 size = cm0) := HE.trans (by rw [if_neg (by omega), if_neg (fun h => h c3), if_pos ⟨c4, c5⟩])
      clear HE
      go_enter Tryz.func84, Tryz.ntmps84
      go_wp2_with fail
      refine (cslotAt 1 _ (by omega) (by omega)).mono ?_
      rintro e w2 ⟨rfl, rfl⟩
      go_wp2_with fail
      refine (cnumber head 40 _ HA.out HH.out).mono ?_
      rintro e w2 ⟨rfl, rfl⟩
      go_wp2_with fail
      refine (cnumber head 44 _ HB.out HH.out).mono ?_
      rintro e w2 ⟨rfl, rfl⟩
      go_wp2_with fail
      refine (cnumber head 48 _ HC.out HH.out).mono ?_
      rintro e w2 ⟨rfl, rfl⟩
      generalize numB head 40 = a at *
      generalize numB head 44 = f at *
      generalize numB head 48 = p at *
      have hwr : IntKind.i64.wrap 64 = 64 := by decide
      have hsl : ∀ X, (Instr.slice 9 (.string head) (some (.int .i64 40)) (some (.int .i64 64)) none).run Tryz.prog X = .ok (.string (head.extract 40 64)) X := fun X => slice_lit head 40 64 (by omega) (by omega) X
      have j1 : decide ((a : Int) < 1) = false := decide_eq_false (by omega)
      have j2 : decide ((3 : Int) < (a : Int)) = false := decide_eq_false (by omega)
      have i4 : (0 : Int) < (f : Int) := by omega
      have i5 : (size : Int) < 64 + 1028 * (f : Int) := by omega
      clear h1 h2 HA HB HC HH hh
      go_upto_region 5 with fail
      go_region_held3 (fun w' => Below w.heap.size w w' ∧ w.heap.size + 1 < w'.heap.size ∧ w'.cell? ⟨w.heap.size, 0, none⟩ = some (.int .i64 (0)) ∧ w'.cell? ⟨w.heap.size, 1, none⟩ = some (.int .i64 (0)) ∧ w'.cell? ⟨w.heap.size, 2, none⟩ = some (.int .i64 (0)) ∧ w'.cell? ⟨w.heap.size, 3, none⟩ = some (.int .i64 (0)) ∧ w'.cell? ⟨w.heap.size + 1, 0, none⟩ = some (.int .i64 (1)) ∧ w'.cell? ⟨w.heap.size + 1, 1, none⟩ = some (.int .i64 ((a : Int))) ∧ w'.cell? ⟨w.heap.size + 1, 2, none⟩ = some (.int .i64 ((f : Int))) ∧ w'.cell? ⟨w.heap.size + 1, 3, none⟩ = some (.int .i64 ((p : Int)))) (first | (refine ⟨(((Below.refl _ _).alloc (Nat.le_refl _) _).alloc (by simp) _).drew, ?_⟩; go_keep) | (go_split_ands; and_intros <;> assumption) | (go_split_ands; exact ⟨keepBelow (by assumption) hb, keepSize hb (by assumption), keepCell hb (Nat.lt_of_succ_lt (by assumption)) (by assumption), keepCell hb (Nat.lt_of_succ_lt (by assumption)) (by assumption), keepCell hb (Nat.lt_of_succ_lt (by assumption)) (by assumption), keepCell hb (Nat.lt_of_succ_lt (by assumption)) (by assumption), keepCell hb (by assumption) (by assumption), keepCell hb (by assumption) (by assumption), keepCell hb (by assumption) (by assumption), keepCell hb (by assumption) (by assumption)⟩))
        (first | (go_at_call 90; refine (ctext 1 a f p _).mono ?_; rintro e w' ⟨rfl, hb⟩))
      go_split_ands
      obtain ⟨hc1, hf1⟩ := bcell hb
      have HB9 : Hid (Below w.heap.size w w') := by show Below w.heap.size w w'; assumption
      clear hb
      go_wp2_with fail
      refine (cframeAt f _ (by omega) (by omega)).mono ?_
      rintro e w3 ⟨rfl, rfl⟩
      go_wp2
      refine bodyPost_ret (v := (.agg #[.int .i64 (0), .int .i64 (0), .int .i64 (0), .int .i64 (0)])) (by simp [results, Tryz.results84, go_sem, *]) rfl ⟨by rw [HT.out]; rfl, ?_⟩
      exact ((((HB9.out).setCell (by simp <;> omega) _).setCell (by simp <;> omega) _).setCell (by simp <;> omega) _).setCell (by simp <;> omega) _
    · have HT : Hid (toldA head 40 1 size = (⟨1, numB head 40, numB head 44, numB head 48⟩ : Cm)) := HE.trans (by rw [if_neg (by omega), if_neg (fun h => h c3), if_neg (fun h => c5 h.2)])
      clear HE
      go_enter Tryz.func84, Tryz.ntmps84
      go_wp2_with fail
      refine (cslotAt 1 _ (by omega) (by omega)).mono ?_
      rintro e w2 ⟨rfl, rfl⟩
      go_wp2_with fail
      refine (cnumber head 40 _ HA.out HH.out).mono ?_
      rintro e w2 ⟨rfl, rfl⟩
      go_wp2_with fail
      refine (cnumber head 44 _ HB.out HH.out).mono ?_
      rintro e w2 ⟨rfl, rfl⟩
      go_wp2_with fail
      refine (cnumber head 48 _ HC.out HH.out).mono ?_
      rintro e w2 ⟨rfl, rfl⟩
      generalize numB head 40 = a at *
      generalize numB head 44 = f at *
      generalize numB head 48 = p at *
      have hwr : IntKind.i64.wrap 64 = 64 := by decide
      have hsl : ∀ X, (Instr.slice 9 (.string head) (some (.int .i64 40)) (some (.int .i64 64)) none).run Tryz.prog X = .ok (.string (head.extract 40 64)) X := fun X => slice_lit head 40 64 (by omega) (by omega) X
      have j1 : decide ((a : Int) < 1) = false := decide_eq_false (by omega)
      have j2 : decide ((3 : Int) < (a : Int)) = false := decide_eq_false (by omega)
      have i4 : (0 : Int) < (f : Int) := by omega
      have i5 : ¬ (size : Int) < 64 + 1028 * (f : Int) := by omega
      clear h1 h2 HA HB HC HH hh
      go_upto_region 5 with fail
      go_region_held3 (fun w' => Below w.heap.size w w' ∧ w.heap.size + 1 < w'.heap.size ∧ w'.cell? ⟨w.heap.size, 0, none⟩ = some (.int .i64 (0)) ∧ w'.cell? ⟨w.heap.size, 1, none⟩ = some (.int .i64 (0)) ∧ w'.cell? ⟨w.heap.size, 2, none⟩ = some (.int .i64 (0)) ∧ w'.cell? ⟨w.heap.size, 3, none⟩ = some (.int .i64 (0)) ∧ w'.cell? ⟨w.heap.size + 1, 0, none⟩ = some (.int .i64 (1)) ∧ w'.cell? ⟨w.heap.size + 1, 1, none⟩ = some (.int .i64 ((a : Int))) ∧ w'.cell? ⟨w.heap.size + 1, 2, none⟩ = some (.int .i64 ((f : Int))) ∧ w'.cell? ⟨w.heap.size + 1, 3, none⟩ = some (.int .i64 ((p : Int)))) (first | (refine ⟨(((Below.refl _ _).alloc (Nat.le_refl _) _).alloc (by simp) _).drew, ?_⟩; go_keep) | (go_split_ands; and_intros <;> assumption) | (go_split_ands; exact ⟨keepBelow (by assumption) hb, keepSize hb (by assumption), keepCell hb (Nat.lt_of_succ_lt (by assumption)) (by assumption), keepCell hb (Nat.lt_of_succ_lt (by assumption)) (by assumption), keepCell hb (Nat.lt_of_succ_lt (by assumption)) (by assumption), keepCell hb (Nat.lt_of_succ_lt (by assumption)) (by assumption), keepCell hb (by assumption) (by assumption), keepCell hb (by assumption) (by assumption), keepCell hb (by assumption) (by assumption), keepCell hb (by assumption) (by assumption)⟩))
        (first | (go_at_call 90; refine (ctext 1 a f p _).mono ?_; rintro e w' ⟨rfl, hb⟩))
      go_split_ands
      obtain ⟨hc1, hf1⟩ := bcell hb
      have HB9 : Hid (Below w.heap.size w w') := by show Below w.heap.size w w'; assumption
      clear hb
      go_wp2_with fail
      refine (cframeAt f _ (by omega) (by omega)).mono ?_
      rintro e w3 ⟨rfl, rfl⟩
      go_wp2
      refine bodyPost_ret (v := (.agg #[.int .i64 (1), .int .i64 ((a : Int)), .int .i64 ((f : Int)), .int .i64 ((p : Int))])) (by simp [results, Tryz.results84, go_sem, *]) rfl ⟨by rw [HT.out]; rfl, ?_⟩
      exact ((((HB9.out).setCell (by simp <;> omega) _).setCell (by simp <;> omega) _).setCell (by simp <;> omega) _).setCell (by simp <;> omega) _
  · have HT : Hid (toldA head 40 1 size = (⟨1, numB head 40, numB head 44, numB head 48⟩ : Cm)) := HE.trans (by rw [if_neg (by omega), if_neg (fun h => h c3), if_neg (fun h => c4 h.1)])
    clear HE
    go_enter Tryz.func84, Tryz.ntmps84
    go_wp2_with fail
    refine (cslotAt 1 _ (by omega) (by omega)).mono ?_
    rintro e w2 ⟨rfl, rfl⟩
    go_wp2_with fail
    refine (cnumber head 40 _ HA.out HH.out).mono ?_
    rintro e w2 ⟨rfl, rfl⟩
    go_wp2_with fail
    refine (cnumber head 44 _ HB.out HH.out).mono ?_
    rintro e w2 ⟨rfl, rfl⟩
    go_wp2_with fail
    refine (cnumber head 48 _ HC.out HH.out).mono ?_
    rintro e w2 ⟨rfl, rfl⟩
    generalize numB head 40 = a at *
    generalize numB head 44 = f at *
    generalize numB head 48 = p at *
    have hwr : IntKind.i64.wrap 64 = 64 := by decide
    have hsl : ∀ X, (Instr.slice 9 (.string head) (some (.int .i64 40)) (some (.int .i64 64)) none).run Tryz.prog X = .ok (.string (head.extract 40 64)) X := fun X => slice_lit head 40 64 (by omega) (by omega) X
    have j1 : decide ((a : Int) < 1) = false := decide_eq_false (by omega)
    have j2 : decide ((3 : Int) < (a : Int)) = false := decide_eq_false (by omega)
    have i4 : ¬ (0 : Int) < (f : Int) := by omega
    clear h1 h2 HA HB HC HH hh
    go_upto_region 5 with fail
    go_region_held3 (fun w' => Below w.heap.size w w' ∧ w.heap.size + 1 < w'.heap.size ∧ w'.cell? ⟨w.heap.size, 0, none⟩ = some (.int .i64 (0)) ∧ w'.cell? ⟨w.heap.size, 1, none⟩ = some (.int .i64 (0)) ∧ w'.cell? ⟨w.heap.size, 2, none⟩ = some (.int .i64 (0)) ∧ w'.cell? ⟨w.heap.size, 3, none⟩ = some (.int .i64 (0)) ∧ w'.cell? ⟨w.heap.size + 1, 0, none⟩ = some (.int .i64 (1)) ∧ w'.cell? ⟨w.heap.size + 1, 1, none⟩ = some (.int .i64 ((a : Int))) ∧ w'.cell? ⟨w.heap.size + 1, 2, none⟩ = some (.int .i64 ((f : Int))) ∧ w'.cell? ⟨w.heap.size + 1, 3, none⟩ = some (.int .i64 ((p : Int)))) (first | (refine ⟨(((Below.refl _ _).alloc (Nat.le_refl _) _).alloc (by simp) _).drew, ?_⟩; go_keep) | (go_split_ands; and_intros <;> assumption) | (go_split_ands; exact ⟨keepBelow (by assumption) hb, keepSize hb (by assumption), keepCell hb (Nat.lt_of_succ_lt (by assumption)) (by assumption), keepCell hb (Nat.lt_of_succ_lt (by assumption)) (by assumption), keepCell hb (Nat.lt_of_succ_lt (by assumption)) (by assumption), keepCell hb (Nat.lt_of_succ_lt (by assumption)) (by assumption), keepCell hb (by assumption) (by assumption), keepCell hb (by assumption) (by assumption), keepCell hb (by assumption) (by assumption), keepCell hb (by assumption) (by assumption)⟩))
      (first | (go_at_call 90; refine (ctext 1 a f p _).mono ?_; rintro e w' ⟨rfl, hb⟩))
    go_split_ands
    obtain ⟨hc1, hf1⟩ := bcell hb
    have HB9 : Hid (Below w.heap.size w w') := by show Below w.heap.size w w'; assumption
    clear hb
    go_wp2
    refine bodyPost_ret (v := (.agg #[.int .i64 (1), .int .i64 ((a : Int)), .int .i64 ((f : Int)), .int .i64 ((p : Int))])) (by simp [results, Tryz.results84, go_sem, *]) rfl ⟨by rw [HT.out]; rfl, ?_⟩
    exact ((((HB9.out).setCell (by simp <;> omega) _).setCell (by simp <;> omega) _).setCell (by simp <;> omega) _).setCell (by simp <;> omega) _
end Go.Proofs.YtfjkockcgddgbaaGreat
