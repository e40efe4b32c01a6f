/- The contracts of relstoreref's small and value: a long number as one of 64 bits. -/
import Derived.Test.YtmkfkjicfmllmaaDoorLong6
namespace Go.Proofs.YtmkfkjicfmllmaaDoor
open Go.RowKit
attribute [local go_sem ↓] Go.wp_at_zero Go.wp_at_succ

theorem fld (a : Option Addr) (k c : Nat) (X : World) : (Instr.field 45 (.agg #[.bool true, .slice a k c]) 1).run Tryd.prog X = .ok (.slice a k c) X := by kernel_rfl
/- the highest d digits as a number -/
def top (f : Nat → Int) (n : Nat) : Nat → Int
  | 0 => 0
  | d + 1 => 10000 * top f n d + f (n - 1 - d)
theorem top_val (f : Nat → Int) (n : Nat) : ∀ d, d ≤ n → val f n = val f (n - d) + top f n d * pw (n - d)
  | 0, _ => by simp [top]
  | d + 1, h => by
    rw [top_val f n d (by omega)]
    obtain ⟨k, hk⟩ : ∃ k, n - d = k + 1 := ⟨n - d - 1, by omega⟩
    rw [hk, val_s, pw_s, show n - (d + 1) = k by omega]
    show _ = _ + (10000 * top f n d + f (n - 1 - d)) * pw k
    rw [show n - 1 - d = k by omega, Int.add_mul, ← Int.mul_assoc, Int.mul_comm (top f n d) 10000]
    omega
theorem top_nn {f : Nat → Int} {n : Nat} (h : valid f n) : ∀ d, d ≤ n → 0 ≤ top f n d
  | 0, _ => by simp [top]
  | d + 1, hd => by
    have := top_nn h d (by omega)
    have := (h (n - 1 - d) (by omega)).1
    show 0 ≤ 10000 * top f n d + f (n - 1 - d)
    omega
theorem top_le {f : Nat → Int} {n : Nat} (h : valid f n) (d : Nat) (hd : d ≤ n) : top f n d ≤ val f n := by
  have e := top_val f n d hd
  have b := (val_bound (k := n - d) (fun i hi => h i (by omega))).1
  have t := top_nn h d hd
  have : top f n d * 1 ≤ top f n d * pw (n - d) := Int.mul_le_mul_of_nonneg_left (by have := pw_pos (n - d); omega) t
  omega
theorem top_all (f : Nat → Int) (n : Nat) : top f n n = val f n := by
  have e := top_val f n n (Nat.le_refl _)
  rw [Nat.sub_self, pw_0, Int.mul_one] at e
  rw [e]
  exact (Int.zero_add _).symm

set_option maxRecDepth 20000 in
set_option maxHeartbeats 1000000 in
theorem csmall_out (p : Bool) (a : Option Addr) (n cap : Nat) (f : Nat → Int) (w : World) (hA : DgA w a n f) (hn : n ≤ 900000) (hf : valid f n) (nf : norm f n) (hx : 9223372036854775808 < val f n) :
    Calls Tryd.prog 39 #[.agg #[.bool p, .slice a n cap]] w fun e w' => e = .returned (.tuple #[.int .i64 0, .bool false]) ∧ Below w.heap.size w w' := by
  have HF : Hid (valid f n) := hf
  have HN : Hid (norm f n) := nf
  have HX1 : Hid (∀ W, Below w.heap.size w W → DgA W a n f) := fun W h => hA.below h
  have HL : Hid (9223372036854775808 < val f n) := hx
  clear hA hf nf hx
  go_enter Tryd.func39, Tryd.ntmps39
  go_wp2_with fail
  refine (clongOf (-9223372036854775808) _ (by decide)).mono ?_
  rintro e w1 ⟨v1, rfl, ⟨ae, ke, ce, fe, rfl, hke, -, hde, hve, hne, hvale⟩, hb1⟩
  obtain ⟨hc1, hf1⟩ := bcell hb1; have za1 : w.heap.size < w1.heap.size := (by have := hb1.size; (try simp at this); omega)
  have hB1 : Below w.heap.size w w1 := ((Below.refl _ _).alloc (Nat.le_refl _) _).trans (hb1.mono ((Below.refl _ _).alloc (Nat.le_refl _) _).size)
  have hvale : val fe ke = 9223372036854775808 := hvale
  have HE : Hid (DgA w1 ae ke fe ∧ valid fe ke ∧ norm fe ke ∧ val fe ke = 9223372036854775808) := ⟨hde, hve, hne, hvale⟩
  have HD : Hid (DgA w1 a n f) := HX1.out _ hB1
  have x0 : w1.cell? ⟨w.heap.size, 0, none⟩ = some (.bool p) := by rw [hc1 _ _ (by simp)]; go_simp
  have x1 : w1.cell? ⟨w.heap.size, 1, none⟩ = some (.slice a n cap) := by rw [hc1 _ _ (by simp)]; go_simp
  have HB : Hid (Below w.heap.size w w1) := hB1
  have E1 : Hid (decide (val fe ke < val f n) = true) := decide_eq_true (by have := HL.out; omega)
  skip
  clear hde hve hne hvale hb1 hB1 hc1 hf1
  have hfld := fld
  go_wp2_with fail
  refine (cabove a n cap ae ke ce f fe w1 HD.out HE.out.1 (by omega) (by omega) HF.out HE.out.2.1 HN.out HE.out.2.2.1).mono ?_
  rintro e w2 ⟨rfl, nq, rfl⟩
  rw [E1.out]
  go_wp2
  go_ret2
  exact ⟨rfl, below_drewN HB.out _⟩

set_option maxRecDepth 20000 in
set_option maxHeartbeats 1000000 in
theorem csmall_edge (a : Option Addr) (n cap : Nat) (f : Nat → Int) (w : World) (hA : DgA w a n f) (hn : n ≤ 900000) (hf : valid f n) (nf : norm f n) (hx : val f n = 9223372036854775808) :
    Calls Tryd.prog 39 #[.agg #[.bool false, .slice a n cap]] w fun e w' => e = .returned (.tuple #[.int .i64 0, .bool false]) ∧ Below w.heap.size w w' := by
  have HF : Hid (valid f n) := hf
  have HN : Hid (norm f n) := nf
  have HX1 : Hid (∀ W, Below w.heap.size w W → DgA W a n f) := fun W h => hA.below h
  have HL : Hid (val f n = 9223372036854775808) := hx
  clear hA hf nf hx
  go_enter Tryd.func39, Tryd.ntmps39
  go_wp2_with fail
  refine (clongOf (-9223372036854775808) _ (by decide)).mono ?_
  rintro e w1 ⟨v1, rfl, ⟨ae, ke, ce, fe, rfl, hke, -, hde, hve, hne, hvale⟩, hb1⟩
  obtain ⟨hc1, hf1⟩ := bcell hb1; have za1 : w.heap.size < w1.heap.size := (by have := hb1.size; (try simp at this); omega)
  have hB1 : Below w.heap.size w w1 := ((Below.refl _ _).alloc (Nat.le_refl _) _).trans (hb1.mono ((Below.refl _ _).alloc (Nat.le_refl _) _).size)
  have hvale : val fe ke = 9223372036854775808 := hvale
  have HE : Hid (DgA w1 ae ke fe ∧ valid fe ke ∧ norm fe ke ∧ val fe ke = 9223372036854775808) := ⟨hde, hve, hne, hvale⟩
  have HD : Hid (DgA w1 a n f) := HX1.out _ hB1
  have x0 : w1.cell? ⟨w.heap.size, 0, none⟩ = some (.bool false) := by rw [hc1 _ _ (by simp)]; go_simp
  have x1 : w1.cell? ⟨w.heap.size, 1, none⟩ = some (.slice a n cap) := by rw [hc1 _ _ (by simp)]; go_simp
  have HB : Hid (Below w.heap.size w w1) := hB1
  have E1 : Hid (decide (val fe ke < val f n) = false) := decide_eq_false (by have := HL.out; omega)
  have E2 : Hid (decide (val f n < val fe ke) = false) := decide_eq_false (by have := HL.out; omega)
  clear hde hve hne hvale hb1 hB1 hc1 hf1
  have hfld := fld
  go_wp2_with fail
  refine (cabove a n cap ae ke ce f fe w1 HD.out HE.out.1 (by omega) (by omega) HF.out HE.out.2.1 HN.out HE.out.2.2.1).mono ?_
  rintro e w2 ⟨rfl, nq, rfl⟩
  rw [E1.out]
  go_wp2_with fail
  refine (cabove ae ke ce a n cap fe f _ (HE.out.1.drewN _) (HD.out.drewN _) (by omega) (by omega) HE.out.2.1 HF.out HE.out.2.2.1 HN.out).mono ?_
  rintro e w2 ⟨rfl, nq2, rfl⟩
  rw [E2.out]
  go_wp2
  go_ret2
  exact ⟨rfl, below_drewN HB.out _⟩

set_option maxRecDepth 20000 in
set_option maxHeartbeats 1000000 in
theorem csmall_minus (a : Option Addr) (n cap : Nat) (f : Nat → Int) (w : World) (hA : DgA w a n f) (hn : n ≤ 900000) (hf : valid f n) (nf : norm f n) (hx : val f n ≤ 9223372036854775808) :
    Calls Tryd.prog 39 #[.agg #[.bool true, .slice a n cap]] w fun e w' => e = .returned (.tuple #[.int .i64 (-(val f n)), .bool true]) ∧ Below w.heap.size w w' := by
  have HF : Hid (valid f n) := hf
  have HN : Hid (norm f n) := nf
  have HX1 : Hid (∀ W, Below w.heap.size w W → DgA W a n f) := fun W h => hA.below h
  have HL : Hid (val f n ≤ 9223372036854775808) := hx
  clear hA hf nf hx
  go_enter Tryd.func39, Tryd.ntmps39
  go_wp2_with fail
  refine (clongOf (-9223372036854775808) _ (by decide)).mono ?_
  rintro e w1 ⟨v1, rfl, ⟨ae, ke, ce, fe, rfl, hke, -, hde, hve, hne, hvale⟩, hb1⟩
  obtain ⟨hc1, hf1⟩ := bcell hb1; have za1 : w.heap.size < w1.heap.size := (by have := hb1.size; (try simp at this); omega)
  have hB1 : Below w.heap.size w w1 := ((Below.refl _ _).alloc (Nat.le_refl _) _).trans (hb1.mono ((Below.refl _ _).alloc (Nat.le_refl _) _).size)
  have hvale : val fe ke = 9223372036854775808 := hvale
  have HE : Hid (DgA w1 ae ke fe ∧ valid fe ke ∧ norm fe ke ∧ val fe ke = 9223372036854775808) := ⟨hde, hve, hne, hvale⟩
  have HD : Hid (DgA w1 a n f) := HX1.out _ hB1
  have x0 : w1.cell? ⟨w.heap.size, 0, none⟩ = some (.bool true) := by rw [hc1 _ _ (by simp)]; go_simp
  have x1 : w1.cell? ⟨w.heap.size, 1, none⟩ = some (.slice a n cap) := by rw [hc1 _ _ (by simp)]; go_simp
  have HB : Hid (Below w.heap.size w w1) := hB1
  have E1 : Hid (decide (val fe ke < val f n) = false) := decide_eq_false (by have := HL.out; omega)
  skip
  clear hde hve hne hvale hb1 hB1 hc1 hf1
  have hfld := fld
  go_wp2_with fail
  refine (cabove a n cap ae ke ce f fe w1 HD.out HE.out.1 (by omega) (by omega) HF.out HE.out.2.1 HN.out HE.out.2.2.1).mono ?_
  rintro e w2 ⟨rfl, nq, rfl⟩
  rw [E1.out]
  have HB2 : Hid (Below w.heap.size w (w1.drewN nq)) := below_drewN HB.out _
  have HD2 : Hid (DgA (w1.drewN nq) a n f) := HD.out.drewN _
  clear HB HD HE E1
  go_wp2
  go_loop [5, 6] (fun x y => ∃ d : Nat, x = .int .i64 (-(top f n d)) ∧ y = .int .i64 ((n : Int) - d - 1) ∧ d ≤ n) (fun _ y => (intOf y + 1).toNat)
  case atStart => exact ⟨0, rfl, by simp, Nat.zero_le _⟩
  case round =>
    obtain ⟨d, rfl, rfl, hd⟩ := hrel
    have t0 := top_nn HF.out d hd
    have t1 := top_le HF.out d hd
    have t9 := HL.out
    by_cases h0 : d = n
    · subst h0
      have te := top_all f d
      have i0 : decide ((0 : Int) ≤ (d : Int) - d - 1) = false := decide_eq_false (by omega)
      go_wp2
      go_ret2
      exact ⟨rfl, HB2.out⟩
    · have i0 : (0 : Int) ≤ (n : Int) - d - 1 := by omega
      obtain ⟨b, off, rfl, hlt, hcells⟩ : ∃ b off, a = some ⟨b, off, none⟩ ∧ b < ((w1.drewN nq) : World).heap.size ∧ ∀ j, j < n → ((w1.drewN nq) : World).cell? ⟨b, off + j, none⟩ = some (.int .i64 (f j)) := by
        rcases HD2.out with h | h
        · omega
        · exact h
      have hc := hcells (n - 1 - d) (by omega)
      have hv := HF.out (n - 1 - d) (by omega)
      have t2 := top_le HF.out (d + 1) (by omega)
      have t3 : top f n (d + 1) = 10000 * top f n d + f (n - 1 - d) := rfl
      have ei : (n : Int) - d - 1 = ((n - 1 - d : Nat) : Int) := by omega
      have i1 : ((n - 1 - d : Nat) : Int) < (n : Int) := by omega
      have i2 : (0 : Int) ≤ ((n - 1 - d : Nat) : Int) := by omega
      rw [ei]
      clear hcells i0
      go_wp2
      go_round
      case rel => exact ⟨d + 1, by rw [t3]; go_num, by go_num, by omega⟩
      case measure => simp [intOf] <;> omega

set_option maxRecDepth 20000 in
set_option maxHeartbeats 1000000 in
theorem csmall_plus (a : Option Addr) (n cap : Nat) (f : Nat → Int) (w : World) (hA : DgA w a n f) (hn : n ≤ 900000) (hf : valid f n) (nf : norm f n) (hx : val f n < 9223372036854775808) :
    Calls Tryd.prog 39 #[.agg #[.bool false, .slice a n cap]] w fun e w' => e = .returned (.tuple #[.int .i64 (val f n), .bool true]) ∧ Below w.heap.size w w' := by
  have HF : Hid (valid f n) := hf
  have HN : Hid (norm f n) := nf
  have HX1 : Hid (∀ W, Below w.heap.size w W → DgA W a n f) := fun W h => hA.below h
  have HL : Hid (val f n < 9223372036854775808) := hx
  clear hA hf nf hx
  go_enter Tryd.func39, Tryd.ntmps39
  go_wp2_with fail
  refine (clongOf (-9223372036854775808) _ (by decide)).mono ?_
  rintro e w1 ⟨v1, rfl, ⟨ae, ke, ce, fe, rfl, hke, -, hde, hve, hne, hvale⟩, hb1⟩
  obtain ⟨hc1, hf1⟩ := bcell hb1; have za1 : w.heap.size < w1.heap.size := (by have := hb1.size; (try simp at this); omega)
  have hB1 : Below w.heap.size w w1 := ((Below.refl _ _).alloc (Nat.le_refl _) _).trans (hb1.mono ((Below.refl _ _).alloc (Nat.le_refl _) _).size)
  have hvale : val fe ke = 9223372036854775808 := hvale
  have HE : Hid (DgA w1 ae ke fe ∧ valid fe ke ∧ norm fe ke ∧ val fe ke = 9223372036854775808) := ⟨hde, hve, hne, hvale⟩
  have HD : Hid (DgA w1 a n f) := HX1.out _ hB1
  have x0 : w1.cell? ⟨w.heap.size, 0, none⟩ = some (.bool false) := by rw [hc1 _ _ (by simp)]; go_simp
  have x1 : w1.cell? ⟨w.heap.size, 1, none⟩ = some (.slice a n cap) := by rw [hc1 _ _ (by simp)]; go_simp
  have HB : Hid (Below w.heap.size w w1) := hB1
  have E1 : Hid (decide (val fe ke < val f n) = false) := decide_eq_false (by have := HL.out; omega)
  have E2 : Hid (decide (val f n < val fe ke) = true) := decide_eq_true (by have := HL.out; omega)
  clear hde hve hne hvale hb1 hB1 hc1 hf1
  have hfld := fld
  go_wp2_with fail
  refine (cabove a n cap ae ke ce f fe w1 HD.out HE.out.1 (by omega) (by omega) HF.out HE.out.2.1 HN.out HE.out.2.2.1).mono ?_
  rintro e w2 ⟨rfl, nq, rfl⟩
  rw [E1.out]
  go_wp2_with fail
  refine (cabove ae ke ce a n cap fe f _ (HE.out.1.drewN _) (HD.out.drewN _) (by omega) (by omega) HE.out.2.1 HF.out HE.out.2.2.1 HN.out).mono ?_
  rintro e w2 ⟨rfl, nq2, rfl⟩
  rw [E2.out]
  have HB2 : Hid (Below w.heap.size w (w1.drewN (nq + nq2))) := below_drewN HB.out _
  have HD2 : Hid (DgA (w1.drewN (nq + nq2)) a n f) := HD.out.drewN _
  clear HB HD HE E1 E2
  go_wp2
  go_loop [5, 6] (fun x y => ∃ d : Nat, x = .int .i64 (-(top f n d)) ∧ y = .int .i64 ((n : Int) - d - 1) ∧ d ≤ n) (fun _ y => (intOf y + 1).toNat)
  case atStart => exact ⟨0, rfl, by simp, Nat.zero_le _⟩
  case round =>
    obtain ⟨d, rfl, rfl, hd⟩ := hrel
    have t0 := top_nn HF.out d hd
    have t1 := top_le HF.out d hd
    have t9 := HL.out
    by_cases h0 : d = n
    · subst h0
      have te := top_all f d
      have i0 : decide ((0 : Int) ≤ (d : Int) - d - 1) = false := decide_eq_false (by omega)
      go_wp2
      go_ret2
      exact ⟨rfl, HB2.out⟩
    · have i0 : (0 : Int) ≤ (n : Int) - d - 1 := by omega
      obtain ⟨b, off, rfl, hlt, hcells⟩ : ∃ b off, a = some ⟨b, off, none⟩ ∧ b < ((w1.drewN (nq + nq2)) : World).heap.size ∧ ∀ j, j < n → ((w1.drewN (nq + nq2)) : World).cell? ⟨b, off + j, none⟩ = some (.int .i64 (f j)) := by
        rcases HD2.out with h | h
        · omega
        · exact h
      have hc := hcells (n - 1 - d) (by omega)
      have hv := HF.out (n - 1 - d) (by omega)
      have t2 := top_le HF.out (d + 1) (by omega)
      have t3 : top f n (d + 1) = 10000 * top f n d + f (n - 1 - d) := rfl
      have ei : (n : Int) - d - 1 = ((n - 1 - d : Nat) : Int) := by omega
      have i1 : ((n - 1 - d : Nat) : Int) < (n : Int) := by omega
      have i2 : (0 : Int) ≤ ((n - 1 - d : Nat) : Int) := by omega
      rw [ei]
      clear hcells i0
      go_wp2
      go_round
      case rel => exact ⟨d + 1, by rw [t3]; go_num, by go_num, by omega⟩
      case measure => simp [intOf] <;> omega

theorem csmallN (p : Bool) (v : Value) (x : Int) (w : World) (h : DgS 900000 w v x) :
    Calls Tryd.prog 39 #[.agg #[.bool p, v]] w fun e w' => e = .returned (.tuple #[.int .i64 (if fits (sg p x) then sg p x else 0), .bool (fits (sg p x))]) ∧ Below w.heap.size w w' := by
  obtain ⟨a, n, cap, f, rfl, hn, -, dA, vf, nf, rfl⟩ := h
  have hb := (val_bound vf).1
  rcases Int.lt_trichotomy 9223372036854775808 (val f n) with hl | hl | hl
  · have e : fits (sg p (val f n)) = false := by rw [fits_not]; cases p <;> simp [sg] <;> omega
    rw [e]
    exact csmall_out p a n cap f w dA hn vf nf hl
  · cases p with
    | false =>
      have e : fits (sg false (val f n)) = false := by rw [fits_not]; simp [sg]; omega
      rw [e]
      exact csmall_edge a n cap f w dA hn vf nf hl.symm
    | true =>
      have e : fits (sg true (val f n)) = true := by rw [fits_iff]; simp [sg]; omega
      rw [e]
      exact csmall_minus a n cap f w dA hn vf nf (by omega)
  · cases p with
    | false =>
      have e : fits (sg false (val f n)) = true := by rw [fits_iff]; simp [sg]; omega
      rw [e]
      exact csmall_plus a n cap f w dA hn vf nf hl
    | true =>
      have e : fits (sg true (val f n)) = true := by rw [fits_iff]; simp [sg]; omega
      rw [e]
      exact csmall_minus a n cap f w dA hn vf nf (by omega)
theorem csmall (p : Bool) (v : Value) (x : Int) (w : World) (h : DgS 30 w v x) :
    Calls Tryd.prog 39 #[.agg #[.bool p, v]] w fun e w' => e = .returned (.tuple #[.int .i64 (if fits (sg p x) then sg p x else 0), .bool (fits (sg p x))]) ∧ Below w.heap.size w w' :=
  csmallN p v x w (h.mono (by omega))
end Go.Proofs.YtmkfkjicfmllmaaDoor
