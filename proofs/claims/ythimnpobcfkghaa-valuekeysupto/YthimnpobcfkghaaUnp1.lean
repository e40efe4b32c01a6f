/- value.readPackedText, value.readPacked -/
import Derived.Test.YthimnpobcfkghaaUnpP
import Derived.Deep.QuietTactic
import Derived.BigQuiet
namespace Go.Proofs.Ythimnpobcfkghaa
open Go.RowKit Go.Lib
attribute [local go_sem ↓] Go.wp_at_zero Go.wp_at_succ
set_option maxHeartbeats 600000 in
theorem vreadText_yes (z : Nat) (s : ByteArray) (w : World) (h1 : z ≤ 1000) (h2 : z ≤ s.size) :
    Calls Try.prog 66 #[.int .i64 z, .string s] w fun e w' => e = .returned (.tuple #[(.agg #[.int .i64 (3), .int .i64 (0), .string (s.extract 0 z)]), .string (ex s z), .bool true]) ∧ Below w.heap.size w w' := by
  have i1 : ¬ ((1000 : Int) < (z : Int)) := by omega
  have i2 : ¬ ((s.size : Int) < (z : Int)) := by omega
  have i3 : (z : Int) ≤ (s.size : Int) := by omega
  go_enter Try.func66, Try.ntmps66
  go_wp2_with fail
  go_region_with (go_at_call 65; refine (vtext _ _).mono ?_; rintro e w' ⟨rfl, hb⟩; obtain ⟨hc, hf⟩ := bcell hb; have hz : w.heap.size < w'.heap.size := by (have := hb.size; simp at this; omega))
  all_goals
    go_wp2
    refine bodyPost_ret (v := .tuple #[(.agg #[.int .i64 (3), .int .i64 (0), .string (s.extract 0 z)]), .string (ex s z), .bool true]) (by simp [results, Try.results66, go_sem, ex, *]) rfl ⟨rfl, ?_⟩
    exact ((((((Below.refl _ _).alloc (Nat.le_refl _) _).drew).trans (hb.mono (by simp))).setCell (by simp <;> omega) _).setCell (by simp <;> omega) _).setCell (by simp <;> omega) _
theorem notEmpty {x : ByteArray} (h : 0 < x.size) : x.toList.isEmpty = false := by
  rw [ByteArray.toList_eq]
  cases hx : x.data.toList with
  | nil => have : x.data.toList.length = x.size := rfl
           rw [hx] at this; simp at this; omega
  | cons a l => rfl
theorem ret3 {v v' : Value} {s s' : ByteArray} {b : Bool} (hv : v = v') (hs : s = s') : Ending.returned (.tuple #[v, .string s, .bool b]) = .returned (.tuple #[v', .string s', .bool b]) := by rw [hv, hs]
/- what readPacked refuses -/
set_option maxHeartbeats 600000 in
theorem vreadPna (x : ByteArray) (w : World) (h0 : 0 < x.size) (hk : bytN x 0 = 1) (h1 : x.size < 2) :
    Calls Try.prog 47 #[.string x] w fun e w' => e = .returned (.tuple #[(.agg #[.int .i64 (0), .int .i64 (0), .string (⟨#[]⟩)]), .string ⟨#[]⟩, .bool false]) ∧ Below w.heap.size w w' := by
  have he := notEmpty h0
  have i0 : (0 : Int) < (x.size : Int) := by omega
  have i1 : (1 : Int) ≤ (x.size : Int) := by omega
  have g0 := bytN_get h0
  have sy := ex_size x 1
  rw [hk] at g0
  have hy : x.extract 1 x.size = ex x 1 := rfl
  generalize ex x 1 = y at *
  have s1 : (y.size : Int) < 1 := by omega
  go_enter Try.func47, Try.ntmps47
  go_wp2_with fail
  go_quiet (fail)
  go_wp2_with fail
  refine bodyPost_ret (v := .tuple #[(.agg #[.int .i64 (0), .int .i64 (0), .string (⟨#[]⟩)]), .string ⟨#[]⟩, .bool false]) (by simp [results, Try.results47, go_sem, *]) rfl ⟨rfl, ?_⟩
  exact ((((below_drewN ((Below.refl _ _).alloc (Nat.le_refl _) _) _)).setCell (by simp <;> omega) _).setCell (by simp <;> omega) _).setCell (by simp <;> omega) _
set_option maxHeartbeats 600000 in
theorem vreadPnb (x : ByteArray) (w : World) (h0 : 0 < x.size) (hk : bytN x 0 = 1) (h1 : 2 ≤ x.size) (h2 : 1 < bytN x 1) :
    Calls Try.prog 47 #[.string x] w fun e w' => e = .returned (.tuple #[(.agg #[.int .i64 (0), .int .i64 (0), .string (⟨#[]⟩)]), .string ⟨#[]⟩, .bool false]) ∧ Below w.heap.size w w' := by
  have he := notEmpty h0
  have i0 : (0 : Int) < (x.size : Int) := by omega
  have i1 : (1 : Int) ≤ (x.size : Int) := by omega
  have g0 := bytN_get h0
  have sy := ex_size x 1
  rw [hk] at g0
  have by1 : bytN (ex x 1) 0 = bytN x 1 := bytN_ex x 1 0
  have hy : x.extract 1 x.size = ex x 1 := rfl
  generalize ex x 1 = y at *
  have s1 : (1 : Int) ≤ (y.size : Int) := by omega
  have z0 : 0 < y.size := by omega
  have z1 : (0 : Int) < (y.size : Int) := by omega
  have g1 := bytN_get z0
  have g2 : (1 : Int) < ((y[0]'z0).toNat : Int) := by rw [g1, by1]; omega
  go_enter Try.func47, Try.ntmps47
  go_wp2_with fail
  go_quiet (fail)
  go_wp2_with fail
  refine bodyPost_ret (v := .tuple #[(.agg #[.int .i64 (0), .int .i64 (0), .string (⟨#[]⟩)]), .string ⟨#[]⟩, .bool false]) (by simp [results, Try.results47, go_sem, *]) rfl ⟨rfl, ?_⟩
  exact ((((below_drewN ((Below.refl _ _).alloc (Nat.le_refl _) _) _)).setCell (by simp <;> omega) _).setCell (by simp <;> omega) _).setCell (by simp <;> omega) _
set_option maxHeartbeats 600000 in
theorem vreadPnc (x : ByteArray) (w : World) (h0 : 0 < x.size) (hk : bytN x 0 = 2) (h1 : x.size < 9) :
    Calls Try.prog 47 #[.string x] w fun e w' => e = .returned (.tuple #[(.agg #[.int .i64 (0), .int .i64 (0), .string (⟨#[]⟩)]), .string ⟨#[]⟩, .bool false]) ∧ Below w.heap.size w w' := by
  have he := notEmpty h0
  have i0 : (0 : Int) < (x.size : Int) := by omega
  have i1 : (1 : Int) ≤ (x.size : Int) := by omega
  have g0 := bytN_get h0
  have sy := ex_size x 1
  rw [hk] at g0
  have hy : x.extract 1 x.size = ex x 1 := rfl
  generalize ex x 1 = y at *
  have s1 : (y.size : Int) < 8 := by omega
  go_enter Try.func47, Try.ntmps47
  go_wp2_with fail
  go_quiet (fail)
  go_wp2_with fail
  refine bodyPost_ret (v := .tuple #[(.agg #[.int .i64 (0), .int .i64 (0), .string (⟨#[]⟩)]), .string ⟨#[]⟩, .bool false]) (by simp [results, Try.results47, go_sem, *]) rfl ⟨rfl, ?_⟩
  exact ((((below_drewN ((Below.refl _ _).alloc (Nat.le_refl _) _) _)).setCell (by simp <;> omega) _).setCell (by simp <;> omega) _).setCell (by simp <;> omega) _
set_option maxHeartbeats 600000 in
theorem vreadPnd (x : ByteArray) (w : World) (h0 : 0 < x.size) (hk : bytN x 0 = 3) (h1 : x.size < 3) :
    Calls Try.prog 47 #[.string x] w fun e w' => e = .returned (.tuple #[(.agg #[.int .i64 (0), .int .i64 (0), .string (⟨#[]⟩)]), .string ⟨#[]⟩, .bool false]) ∧ Below w.heap.size w w' := by
  have he := notEmpty h0
  have i0 : (0 : Int) < (x.size : Int) := by omega
  have i1 : (1 : Int) ≤ (x.size : Int) := by omega
  have g0 := bytN_get h0
  have sy := ex_size x 1
  rw [hk] at g0
  have hy : x.extract 1 x.size = ex x 1 := rfl
  generalize ex x 1 = y at *
  have s1 : (y.size : Int) < 2 := by omega
  go_enter Try.func47, Try.ntmps47
  go_wp2_with fail
  go_quiet (fail)
  go_wp2_with fail
  refine bodyPost_ret (v := .tuple #[(.agg #[.int .i64 (0), .int .i64 (0), .string (⟨#[]⟩)]), .string ⟨#[]⟩, .bool false]) (by simp [results, Try.results47, go_sem, *]) rfl ⟨rfl, ?_⟩
  exact ((((below_drewN ((Below.refl _ _).alloc (Nat.le_refl _) _) _)).setCell (by simp <;> omega) _).setCell (by simp <;> omega) _).setCell (by simp <;> omega) _
set_option maxHeartbeats 600000 in
theorem vreadPne (x : ByteArray) (w : World) (h0 : 0 < x.size) (hk : 4 ≤ bytN x 0) :
    Calls Try.prog 47 #[.string x] w fun e w' => e = .returned (.tuple #[(.agg #[.int .i64 (0), .int .i64 (0), .string (⟨#[]⟩)]), .string ⟨#[]⟩, .bool false]) ∧ Below w.heap.size w w' := by
  have he := notEmpty h0
  have i0 : (0 : Int) < (x.size : Int) := by omega
  have i1 : (1 : Int) ≤ (x.size : Int) := by omega
  have g0 := bytN_get h0
  have sy := ex_size x 1
  have hk2 := bytN_lt x 0
  generalize bytN x 0 = k at *
  have q0 : ¬ ((k : Int) = 0) := by omega
  have q1 : ¬ ((k : Int) = 1) := by omega
  have q2 : ¬ ((k : Int) = 2) := by omega
  have q3 : ¬ ((k : Int) = 3) := by omega
  have hy : x.extract 1 x.size = ex x 1 := rfl
  generalize ex x 1 = y at *
  go_enter Try.func47, Try.ntmps47
  go_wp2_with fail
  go_quiet (fail)
  go_wp2_with fail
  refine bodyPost_ret (v := .tuple #[(.agg #[.int .i64 (0), .int .i64 (0), .string (⟨#[]⟩)]), .string ⟨#[]⟩, .bool false]) (by simp [results, Try.results47, go_sem, *]) rfl ⟨rfl, ?_⟩
  exact ((((below_drewN ((Below.refl _ _).alloc (Nat.le_refl _) _) _)).setCell (by simp <;> omega) _).setCell (by simp <;> omega) _).setCell (by simp <;> omega) _
/- what it takes -/
set_option maxHeartbeats 600000 in
theorem vreadP0 (x : ByteArray) (w : World) (h0 : 0 < x.size) (hk : bytN x 0 = 0) :
    Calls Try.prog 47 #[.string x] w fun e w' => e = .returned (.tuple #[(.agg #[.int .i64 (0), .int .i64 (0), .string (⟨#[]⟩)]), .string (ex x 1), .bool true]) ∧ Below w.heap.size w w' := by
  have he := notEmpty h0
  have i0 : (0 : Int) < (x.size : Int) := by omega
  have i1 : (1 : Int) ≤ (x.size : Int) := by omega
  have g0 := bytN_get h0
  have sy := ex_size x 1
  rw [hk] at g0
  have hy : x.extract 1 x.size = ex x 1 := rfl
  generalize ex x 1 = y at *
  go_enter Try.func47, Try.ntmps47
  go_wp2_with fail
  go_quiet (fail)
  go_wp2_with fail
  refine bodyPost_ret (v := .tuple #[(.agg #[.int .i64 (0), .int .i64 (0), .string (⟨#[]⟩)]), .string y, .bool true]) (by simp [results, Try.results47, go_sem, *]) rfl ⟨rfl, ?_⟩
  exact ((((below_drewN ((Below.refl _ _).alloc (Nat.le_refl _) _) _)).setCell (by simp <;> omega) _).setCell (by simp <;> omega) _).setCell (by simp <;> omega) _
set_option maxHeartbeats 600000 in
theorem vreadP1 (x : ByteArray) (w : World) (h0 : 0 < x.size) (hk : bytN x 0 = 1) (h1 : 2 ≤ x.size) (h2 : bytN x 1 ≤ 1) :
    Calls Try.prog 47 #[.string x] w fun e w' => e = .returned (.tuple #[(.agg #[.int .i64 (1), .int .i64 (bn (bytN x 1 == 1)), .string (⟨#[]⟩)]), .string (ex (ex x 1) 1), .bool true]) ∧ Below w.heap.size w w' := by
  have he := notEmpty h0
  have i0 : (0 : Int) < (x.size : Int) := by omega
  have i1 : (1 : Int) ≤ (x.size : Int) := by omega
  have g0 := bytN_get h0
  have sy := ex_size x 1
  rw [hk] at g0
  have by1 : bytN (ex x 1) 0 = bytN x 1 := bytN_ex x 1 0
  have hy : x.extract 1 x.size = ex x 1 := rfl
  generalize ex x 1 = y at *
  have s1 : (1 : Int) ≤ (y.size : Int) := by omega
  have z0 : 0 < y.size := by omega
  have z1 : (0 : Int) < (y.size : Int) := by omega
  have g1 := bytN_get z0
  rw [by1] at g1
  have g2 : ((bytN x 1 : Nat) : Int) ≤ 1 := by omega
  have g3 : (bytN x 1 == 1) = ((bytN x 1 : Int) == 1) := by rw [Bool.eq_iff_iff]; simp; omega
  rw [g3]
  generalize bytN x 1 = k at *
  go_enter Try.func47, Try.ntmps47
  go_wp2_with fail
  go_quiet (fail)
  go_wp2_with fail
  go_region_with (go_at_call 58; refine (vtruth _ _).mono ?_; rintro e w' ⟨rfl, hb⟩; obtain ⟨hc, hf⟩ := bcell hb; have hzz : w.heap.size < w'.heap.size := by (have := hb.size; simp at this; omega))
  all_goals
    go_wp2
    refine bodyPost_ret (v := .tuple #[(.agg #[.int .i64 (1), .int .i64 (bn ((k : Int) == 1)), .string (⟨#[]⟩)]), .string (y.extract 1 y.size), .bool true]) (by simp [results, Try.results47, go_sem, *]) rfl ⟨rfl, ?_⟩
    exact ((((below_drewN (((Below.refl _ _).alloc (Nat.le_refl _) _)) _).trans (hb.mono (by simp))).setCell (by simp <;> omega) _).setCell (by simp <;> omega) _).setCell (by simp <;> omega) _
theorem or_i64N (a b : Nat) (ha : a < 4611686018427387904) (hb : b < 4611686018427387904) : bits .or .i64 (a : Int) (b : Int) = ((a ||| b : Nat) : Int) := by
  have hx : a ||| b < 2 ^ 62 := Nat.or_lt_two_pow (by omega) (by omega)
  show IntKind.i64.wrap ((BitVec.ofInt 64 (a : Int) ||| BitVec.ofInt 64 (b : Int)).toNat : Int) = _
  rw [BitVec.toNat_or, ofInt_u64 a (by omega), ofInt_u64 b (by omega)]
  rw [IntKind.wrap_i64]; omega
theorem join_i64N (x y : Nat) (hx : x < 256) (hy : y < 256) : bits .or .i64 (IntKind.i64.wrap (IntKind.i64.wrap (x : Int) * 256)) (IntKind.i64.wrap (y : Int)) = ((256 * x + y : Nat) : Int) := by
  have e1 : IntKind.i64.wrap (IntKind.i64.wrap (x : Int) * 256) = ((x * 256 : Nat) : Int) := by
    rw [IntKind.wrap_i64, IntKind.wrap_i64]; omega
  have e2 : IntKind.i64.wrap (y : Int) = (y : Int) := by rw [IntKind.wrap_i64]; omega
  rw [e1, e2, or_i64N _ _ (by omega) (by omega)]
  congr 1
  have h := Nat.two_pow_add_eq_or_of_lt (i := 8) (show y < 2 ^ 8 by omega) x
  rw [show x * 256 = 2 ^ 8 * x by omega, ← h]
theorem wrap_i64u (u : Nat) (h : u < 18446744073709551616) : IntKind.i64.wrap (u : Int) = sg u := by
  unfold sg
  rw [IntKind.wrap_i64]
  split <;> omega
set_option maxHeartbeats 600000 in
theorem vreadP2 (x : ByteArray) (w : World) (h0 : 0 < x.size) (hk : bytN x 0 = 2) (h1 : 9 ≤ x.size) :
    Calls Try.prog 47 #[.string x] w fun e w' => e = .returned (.tuple #[(.agg #[.int .i64 (2), .int .i64 (sg (ubN (ex x 1) 8)), .string (⟨#[]⟩)]), .string (ex (ex x 1) 8), .bool true]) ∧ Below w.heap.size w w' := by
  have he := notEmpty h0
  have i0 : (0 : Int) < (x.size : Int) := by omega
  have i1 : (1 : Int) ≤ (x.size : Int) := by omega
  have g0 := bytN_get h0
  have sy := ex_size x 1
  rw [hk] at g0
  have hy : x.extract 1 x.size = ex x 1 := rfl
  generalize ex x 1 = y at *
  have s1 : (8 : Int) ≤ (y.size : Int) := by omega
  have s2 : 8 ≤ y.size := by omega
  have hu := ubN_8 y
  have hw := wrap_i64u _ hu
  clear sy
  go_enter Try.func47, Try.ntmps47
  go_wp2_with fail
  go_quiet (fail)
  go_wp2_with fail
  go_region_with (first | (go_at_call 60; refine (veight _ _ ?_).mono ?_; exact s2; rintro e w' ⟨rfl, rfl⟩) | (go_at_call 59; refine (vnumber _ _).mono ?_; rintro e w' ⟨rfl, hb⟩; obtain ⟨hc, hf⟩ := bcell hb; have hzz : w.heap.size < w'.heap.size := by (have := hb.size; simp at this; omega)))
  all_goals
    go_wp2
    refine bodyPost_ret (v := .tuple #[(.agg #[.int .i64 (2), .int .i64 (sg (ubN y 8)), .string (⟨#[]⟩)]), .string (y.extract 8 y.size), .bool true]) (by simp [results, Try.results47, go_sem, *]) rfl ⟨rfl, ?_⟩
    exact ((((below_drewN (((Below.refl _ _).alloc (Nat.le_refl _) _)) _).trans (hb.mono (by simp))).setCell (by simp <;> omega) _).setCell (by simp <;> omega) _).setCell (by simp <;> omega) _
set_option maxHeartbeats 600000 in
theorem vreadP3 (x : ByteArray) (w : World) (h0 : 0 < x.size) (hk : bytN x 0 = 3) (h1 : 3 ≤ x.size) (h2 : szT x 0 ≤ 1000) (h3 : 3 + szT x 0 ≤ x.size) :
    Calls Try.prog 47 #[.string x] w fun e w' => e = .returned (.tuple #[(.agg #[.int .i64 (3), .int .i64 (0), .string ((ex (ex x 1) 2).extract 0 (szT x 0))]), .string (ex (ex (ex x 1) 2) (szT x 0)), .bool true]) ∧ Below w.heap.size w w' := by
  have he := notEmpty h0
  have i0 : (0 : Int) < (x.size : Int) := by omega
  have i1 : (1 : Int) ≤ (x.size : Int) := by omega
  have g0 := bytN_get h0
  have sy := ex_size x 1
  rw [hk] at g0
  have by1 : bytN (ex x 1) 0 = bytN x 1 := bytN_ex x 1 0
  have by2 : bytN (ex x 1) 1 = bytN x 2 := bytN_ex x 1 1
  have hl1 := bytN_lt x 1
  have hl2 := bytN_lt x 2
  have hsz : szT x 0 = 256 * bytN x 1 + bytN x 2 := rfl
  have hy : x.extract 1 x.size = ex x 1 := rfl
  generalize ex x 1 = y at *
  have s1 : (2 : Int) ≤ (y.size : Int) := by omega
  have z0 : 0 < y.size := by omega
  have z1 : 1 < y.size := by omega
  have z2 : (0 : Int) < (y.size : Int) := by omega
  have z3 : (1 : Int) < (y.size : Int) := by omega
  have g1 := bytN_get z0
  have g2 := bytN_get z1
  rw [by1] at g1
  rw [by2] at g2
  have sz := ex_size y 2
  have hz : y.extract 2 y.size = ex y 2 := rfl
  generalize ex y 2 = z at *
  have hj := join_i64N (bytN x 1) (bytN x 2) hl1 hl2
  rw [← hsz] at hj
  generalize szT x 0 = n at *
  have H4 : Hid (n ≤ z.size) := (by omega : n ≤ z.size)
  generalize bytN x 1 = b1 at *
  generalize bytN x 2 = b2 at *
  have HJ : Hid _ := hj
  clear hj
  clear sy sz hsz
  clear h3
  go_enter Try.func47, Try.ntmps47
  go_wp2_with fail
  go_quiet (fail)
  go_wp2_with fail
  go_region_with (go_at_call 66; rw [HJ.out]; refine (vreadText_yes _ _ _ ?_ ?_).mono ?_; exact h2; exact H4.out; rintro e w' ⟨rfl, hb⟩; obtain ⟨hc, hf⟩ := bcell hb; have hzz : w.heap.size < w'.heap.size := by (have := hb.size; simp at this; omega))
  all_goals
    go_wp2
    refine bodyPost_ret (v := .tuple #[(.agg #[.int .i64 (3), .int .i64 (0), .string (z.extract 0 n)]), .string (ex z n), .bool true]) (by simp [results, Try.results47, go_sem, *]) rfl ⟨rfl, ?_⟩
    exact ((((below_drewN (((Below.refl _ _).alloc (Nat.le_refl _) _)) _).trans (hb.mono (by simp))).setCell (by simp <;> omega) _).setCell (by simp <;> omega) _).setCell (by simp <;> omega) _
set_option maxHeartbeats 600000 in
theorem vreadP3n (x : ByteArray) (w : World) (h0 : 0 < x.size) (hk : bytN x 0 = 3) (h1 : 3 ≤ x.size) (h2 : ¬ (szT x 0 ≤ 1000 ∧ 3 + szT x 0 ≤ x.size)) :
    Calls Try.prog 47 #[.string x] w fun e w' => e = .returned (.tuple #[(.agg #[.int .i64 (0), .int .i64 (0), .string (⟨#[]⟩)]), .string ⟨#[]⟩, .bool false]) ∧ Below w.heap.size w w' := by
  have he := notEmpty h0
  have i0 : (0 : Int) < (x.size : Int) := by omega
  have i1 : (1 : Int) ≤ (x.size : Int) := by omega
  have g0 := bytN_get h0
  have sy := ex_size x 1
  rw [hk] at g0
  have by1 : bytN (ex x 1) 0 = bytN x 1 := bytN_ex x 1 0
  have by2 : bytN (ex x 1) 1 = bytN x 2 := bytN_ex x 1 1
  have hl1 := bytN_lt x 1
  have hl2 := bytN_lt x 2
  have hsz : szT x 0 = 256 * bytN x 1 + bytN x 2 := rfl
  have hy : x.extract 1 x.size = ex x 1 := rfl
  generalize ex x 1 = y at *
  have s1 : (2 : Int) ≤ (y.size : Int) := by omega
  have z0 : 0 < y.size := by omega
  have z1 : 1 < y.size := by omega
  have z2 : (0 : Int) < (y.size : Int) := by omega
  have z3 : (1 : Int) < (y.size : Int) := by omega
  have g1 := bytN_get z0
  have g2 := bytN_get z1
  rw [by1] at g1
  rw [by2] at g2
  have sz := ex_size y 2
  have hz : y.extract 2 y.size = ex y 2 := rfl
  generalize ex y 2 = z at *
  have hj := join_i64N (bytN x 1) (bytN x 2) hl1 hl2
  rw [← hsz] at hj
  generalize szT x 0 = n at *
  have H4 : Hid (¬ (n ≤ 1000 ∧ n ≤ z.size)) := (by omega : ¬ (n ≤ 1000 ∧ n ≤ z.size))
  generalize bytN x 1 = b1 at *
  generalize bytN x 2 = b2 at *
  have HJ : Hid _ := hj
  clear hj
  clear sy sz hsz
  clear h2
  go_enter Try.func47, Try.ntmps47
  go_wp2_with fail
  go_quiet (fail)
  go_wp2_with fail
  go_region_with (go_at_call 66; rw [HJ.out]; refine (vreadText_no _ _ _ ?_).mono ?_; exact H4.out; rintro e w' ⟨rfl, hb⟩; obtain ⟨hc, hf⟩ := bcell hb; have hzz : w.heap.size < w'.heap.size := by (have := hb.size; simp at this; omega))
  all_goals
    go_wp2
    refine bodyPost_ret (v := .tuple #[(.agg #[.int .i64 (0), .int .i64 (0), .string (⟨#[]⟩)]), .string ⟨#[]⟩, .bool false]) (by simp [results, Try.results47, go_sem, *]) rfl ⟨rfl, ?_⟩
    exact ((((below_drewN (((Below.refl _ _).alloc (Nat.le_refl _) _)) _).trans (hb.mono (by simp))).setCell (by simp <;> omega) _).setCell (by simp <;> omega) _).setCell (by simp <;> omega) _
end Go.Proofs.Ythimnpobcfkghaa
