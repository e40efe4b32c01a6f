/- value.readKey -/
import Derived.Test.YthimnpobcfkghaaKeyD
namespace Go.Proofs.Ythimnpobcfkghaa
open Go.RowKit Go.Lib
attribute [local go_sem ↓] Go.wp_at_zero Go.wp_at_succ
set_option maxRecDepth 20000 in
set_option maxHeartbeats 600000 in
theorem vrk1 (x : ByteArray) (w : World) (h0 : 0 < x.size) (hk : bytN x 0 = 1) :
    Calls Try.prog 35 #[.string x] w fun e w' => e = .returned (.tuple #[(.agg #[.int .i64 (0), .int .i64 (0), .string (⟨#[]⟩)]), .string (ex x 1), .bool true]) ∧ Below w.heap.size w w' := by
  have i0 : (0 : Int) < (x.size : Int) := by omega
  have i1 : (1 : Int) ≤ (x.size : Int) := by omega
  have g0 := bytN_get h0
  have sy := ex_size x 1
  have hy : x.extract 1 x.size = ex x 1 := rfl
  rw [hk] at g0
  generalize ex x 1 = y at *
  go_enter Try.func35, Try.ntmps35
  go_wp2_with fail
  go_quiet (fail)
  go_wp2_with fail
  refine bodyPost_ret (v := .tuple #[(.agg #[.int .i64 (0), .int .i64 (0), .string (⟨#[]⟩)]), .string y, .bool true]) (by simp [results, Try.results35, go_sem, *]) rfl ⟨rfl, ?_⟩
  exact ((((below_drewN ((Below.refl _ _).alloc (Nat.le_refl _) _) _)).setCell (by simp <;> omega) _).setCell (by simp <;> omega) _).setCell (by simp <;> omega) _
set_option maxRecDepth 20000 in
set_option maxHeartbeats 600000 in
theorem vrk2 (x : ByteArray) (w : World) (h0 : 0 < x.size) (hk : bytN x 0 = 2) :
    Calls Try.prog 35 #[.string x] w fun e w' => e = .returned (.tuple #[(.agg #[.int .i64 (1), .int .i64 (0), .string (⟨#[]⟩)]), .string (ex x 1), .bool true]) ∧ Below w.heap.size w w' := by
  have i0 : (0 : Int) < (x.size : Int) := by omega
  have i1 : (1 : Int) ≤ (x.size : Int) := by omega
  have g0 := bytN_get h0
  have sy := ex_size x 1
  have hy : x.extract 1 x.size = ex x 1 := rfl
  rw [hk] at g0
  generalize ex x 1 = y at *
  go_enter Try.func35, Try.ntmps35
  go_wp2_with fail
  go_quiet (fail)
  go_wp2_with fail
  refine (vtruth false _).mono ?_
  rintro e w' ⟨rfl, hb⟩
  obtain ⟨hc, hf⟩ := bcell hb; have hzz : w.heap.size < w'.heap.size := by (have := hb.size; simp at this; omega)
  go_wp2_with fail
  refine bodyPost_ret (v := .tuple #[(.agg #[.int .i64 (1), .int .i64 (0), .string (⟨#[]⟩)]), .string y, .bool true]) (by simp [results, Try.results35, go_sem, bn, *]) rfl ⟨rfl, ?_⟩
  exact ((((below_drewN (((Below.refl _ _).alloc (Nat.le_refl _) _)) _).trans (hb.mono (by simp))).setCell (by simp <;> omega) _).setCell (by simp <;> omega) _).setCell (by simp <;> omega) _
set_option maxRecDepth 20000 in
set_option maxHeartbeats 600000 in
theorem vrk3 (x : ByteArray) (w : World) (h0 : 0 < x.size) (hk : bytN x 0 = 3) :
    Calls Try.prog 35 #[.string x] w fun e w' => e = .returned (.tuple #[(.agg #[.int .i64 (1), .int .i64 (1), .string (⟨#[]⟩)]), .string (ex x 1), .bool true]) ∧ Below w.heap.size w w' := by
  have i0 : (0 : Int) < (x.size : Int) := by omega
  have i1 : (1 : Int) ≤ (x.size : Int) := by omega
  have g0 := bytN_get h0
  have sy := ex_size x 1
  have hy : x.extract 1 x.size = ex x 1 := rfl
  rw [hk] at g0
  generalize ex x 1 = y at *
  go_enter Try.func35, Try.ntmps35
  go_wp2_with fail
  go_quiet (fail)
  go_wp2_with fail
  refine (vtruth true _).mono ?_
  rintro e w' ⟨rfl, hb⟩
  obtain ⟨hc, hf⟩ := bcell hb; have hzz : w.heap.size < w'.heap.size := by (have := hb.size; simp at this; omega)
  go_wp2_with fail
  refine bodyPost_ret (v := .tuple #[(.agg #[.int .i64 (1), .int .i64 (1), .string (⟨#[]⟩)]), .string y, .bool true]) (by simp [results, Try.results35, go_sem, bn, *]) rfl ⟨rfl, ?_⟩
  exact ((((below_drewN (((Below.refl _ _).alloc (Nat.le_refl _) _)) _).trans (hb.mono (by simp))).setCell (by simp <;> omega) _).setCell (by simp <;> omega) _).setCell (by simp <;> omega) _
set_option maxRecDepth 20000 in
set_option maxHeartbeats 600000 in
theorem vrk4n (x : ByteArray) (w : World) (h0 : 0 < x.size) (hk : bytN x 0 = 4) (h1 : x.size < 9) :
    Calls Try.prog 35 #[.string x] w fun e w' => e = .returned (.tuple #[(.agg #[.int .i64 (0), .int .i64 (0), .string (⟨#[]⟩)]), .string ⟨#[]⟩, .bool false]) ∧ Below w.heap.size w w' := by
  have i0 : (0 : Int) < (x.size : Int) := by omega
  have i1 : (1 : Int) ≤ (x.size : Int) := by omega
  have g0 := bytN_get h0
  have sy := ex_size x 1
  have hy : x.extract 1 x.size = ex x 1 := rfl
  rw [hk] at g0
  generalize ex x 1 = y at *
  have s1 : (y.size : Int) < 8 := by omega
  clear sy
  go_enter Try.func35, Try.ntmps35
  go_wp2_with fail
  go_quiet (fail)
  go_wp2_with fail
  refine bodyPost_ret (v := .tuple #[(.agg #[.int .i64 (0), .int .i64 (0), .string (⟨#[]⟩)]), .string ⟨#[]⟩, .bool false]) (by simp [results, Try.results35, go_sem, *]) rfl ⟨rfl, ?_⟩
  exact ((((below_drewN ((Below.refl _ _).alloc (Nat.le_refl _) _) _)).setCell (by simp <;> omega) _).setCell (by simp <;> omega) _).setCell (by simp <;> omega) _
theorem xor_back (u : Nat) (h : u < 18446744073709551616) : bits .xor .u64 (u : Int) 9223372036854775808 = (((u + 9223372036854775808) % 18446744073709551616 : Nat) : Int) := by
  have e2 : ((9223372036854775808 : Nat) : Int) = 9223372036854775808 := rfl
  have h1 := bits_xor_u64N u 9223372036854775808 h (by omega)
  rw [xor63 _ h, e2] at h1
  exact h1
theorem wrap_back (u : Nat) (h : u < 18446744073709551616) : IntKind.i64.wrap (((u + 9223372036854775808) % 18446744073709551616 : Nat) : Int) = (u : Int) - 9223372036854775808 := by
  rw [IntKind.wrap_i64]; omega
set_option maxRecDepth 20000 in
set_option maxHeartbeats 600000 in
theorem vrk4 (x : ByteArray) (w : World) (h0 : 0 < x.size) (hk : bytN x 0 = 4) (h1 : 9 ≤ x.size) :
    Calls Try.prog 35 #[.string x] w fun e w' => e = .returned (.tuple #[(.agg #[.int .i64 (2), .int .i64 ((ubN (ex x 1) 8 : Int) - 9223372036854775808), .string (⟨#[]⟩)]), .string (ex (ex x 1) 8), .bool true]) ∧ Below w.heap.size w w' := by
  have i0 : (0 : Int) < (x.size : Int) := by omega
  have i1 : (1 : Int) ≤ (x.size : Int) := by omega
  have g0 := bytN_get h0
  have sy := ex_size x 1
  have hy : x.extract 1 x.size = ex x 1 := rfl
  rw [hk] at g0
  generalize ex x 1 = y at *
  have s1 : (8 : Int) ≤ (y.size : Int) := by omega
  have s3 : ¬ ((y.size : Int) < 8) := by omega
  have s2 : 8 ≤ y.size := by omega
  have hu := ubN_8 y
  have hw1 := xor_back _ hu
  have hw2 := wrap_back _ hu
  generalize (ubN y 8 : Int) - 9223372036854775808 = nn at *
  generalize (ubN y 8 + 9223372036854775808) % 18446744073709551616 = z at *
  clear sy hu
  go_enter Try.func35, Try.ntmps35
  go_wp2_with fail
  go_quiet (fail)
  go_wp2_with fail
  go_region_with (first | (go_at_call 60; refine (veight _ _ ?_).mono ?_; exact s2; rintro e w' ⟨rfl, rfl⟩) | (go_at_call 59; refine (vnumber _ _).mono ?_; rintro e w' ⟨rfl, hb⟩; obtain ⟨hc, hf⟩ := bcell hb; have hzz : w.heap.size < w'.heap.size := by (have := hb.size; simp at this; omega)))
  all_goals
    go_wp2
    refine bodyPost_ret (v := .tuple #[(.agg #[.int .i64 (2), .int .i64 (nn), .string (⟨#[]⟩)]), .string (y.extract 8 y.size), .bool true]) (by simp [results, Try.results35, go_sem, *]) rfl ⟨rfl, ?_⟩
    exact ((((below_drewN (((Below.refl _ _).alloc (Nat.le_refl _) _)) _).trans (hb.mono (by simp))).setCell (by simp <;> omega) _).setCell (by simp <;> omega) _).setCell (by simp <;> omega) _
set_option maxRecDepth 20000 in
set_option maxHeartbeats 600000 in
theorem vrk5 (x : ByteArray) (w : World) (h0 : 0 < x.size) (hk : bytN x 0 = 5) (hx : x.size ≤ 1099511000000) :
    Calls Try.prog 35 #[.string x] w fun e w' => ((∃ t q, q ≤ (ex x 1).size ∧ unesc (ll (ex x 1)) = some (t, (ll (ex x 1)).drop q) ∧ e = .returned (.tuple #[(.agg #[.int .i64 (3), .int .i64 (0), .string (⟨t.toArray⟩)]), .string (ex (ex x 1) q), .bool true])) ∨ (unesc (ll (ex x 1)) = none ∧ e = .returned (.tuple #[(.agg #[.int .i64 (0), .int .i64 (0), .string (⟨#[]⟩)]), .string ⟨#[]⟩, .bool false]))) ∧ Below w.heap.size w w' := by
  have i0 : (0 : Int) < (x.size : Int) := by omega
  have i1 : (1 : Int) ≤ (x.size : Int) := by omega
  have g0 := bytN_get h0
  have sy := ex_size x 1
  have hy : x.extract 1 x.size = ex x 1 := rfl
  rw [hk] at g0
  generalize ex x 1 = y at *
  have hys : y.size ≤ 1099511000000 := by omega
  clear sy
  go_enter Try.func35, Try.ntmps35
  go_wp2_with fail
  go_quiet (fail)
  go_wp2_with fail
  refine (vreadKT _ _ hys).mono ?_
  rintro e w' ⟨h, hb⟩
  obtain ⟨hc, hf⟩ := bcell hb; have hzz : w.heap.size < w'.heap.size := by (have := hb.size; simp at this; omega)
  rcases h with ⟨t, q, h1, h2, rfl⟩ | ⟨h2, rfl⟩
  · have H2 : Hid _ := h2
    clear h2
    go_wp2_with fail
    refine bodyPost_ret (v := .tuple #[(.agg #[.int .i64 (3), .int .i64 (0), .string (⟨t.toArray⟩)]), .string (ex y q), .bool true]) (by simp [results, Try.results35, go_sem, *]) rfl ⟨.inl ⟨t, q, h1, H2.out, rfl⟩, ?_⟩
    exact ((((below_drewN (((Below.refl _ _).alloc (Nat.le_refl _) _)) _).trans (hb.mono (by simp))).setCell (by simp <;> omega) _).setCell (by simp <;> omega) _).setCell (by simp <;> omega) _
  · have H2 : Hid _ := h2
    clear h2
    go_wp2_with fail
    refine bodyPost_ret (v := .tuple #[(.agg #[.int .i64 (0), .int .i64 (0), .string (⟨#[]⟩)]), .string ⟨#[]⟩, .bool false]) (by simp [results, Try.results35, go_sem, *]) rfl ⟨.inr ⟨H2.out, rfl⟩, ?_⟩
    exact ((((below_drewN (((Below.refl _ _).alloc (Nat.le_refl _) _)) _).trans (hb.mono (by simp))).setCell (by simp <;> omega) _).setCell (by simp <;> omega) _).setCell (by simp <;> omega) _
set_option maxRecDepth 20000 in
set_option maxHeartbeats 600000 in
theorem vrkn (x : ByteArray) (w : World) (h0 : 0 < x.size) (hk : bytN x 0 = 0 ∨ 6 ≤ bytN x 0) :
    Calls Try.prog 35 #[.string x] w fun e w' => e = .returned (.tuple #[(.agg #[.int .i64 (0), .int .i64 (0), .string (⟨#[]⟩)]), .string ⟨#[]⟩, .bool false]) ∧ Below w.heap.size w w' := by
  have i0 : (0 : Int) < (x.size : Int) := by omega
  have i1 : (1 : Int) ≤ (x.size : Int) := by omega
  have g0 := bytN_get h0
  have sy := ex_size x 1
  have hy : x.extract 1 x.size = ex x 1 := rfl
  have hk2 := bytN_lt x 0
  generalize bytN x 0 = k at *
  have q1 : ¬ ((k : Int) = 1) := by omega
  have q2 : ¬ ((k : Int) = 2) := by omega
  have q3 : ¬ ((k : Int) = 3) := by omega
  have q4 : ¬ ((k : Int) = 4) := by omega
  have q5 : ¬ ((k : Int) = 5) := by omega
  clear hk
  generalize ex x 1 = y at *
  clear sy
  go_enter Try.func35, Try.ntmps35
  go_wp2_with fail
  go_quiet (fail)
  go_wp2_with fail
  refine bodyPost_ret (v := .tuple #[(.agg #[.int .i64 (0), .int .i64 (0), .string (⟨#[]⟩)]), .string ⟨#[]⟩, .bool false]) (by simp [results, Try.results35, go_sem, *]) rfl ⟨rfl, ?_⟩
  exact ((((below_drewN ((Below.refl _ _).alloc (Nat.le_refl _) _) _)).setCell (by simp <;> omega) _).setCell (by simp <;> omega) _).setCell (by simp <;> omega) _
theorem vreadKey (x : ByteArray) (w : World) (h0 : 0 < x.size) (hx : x.size ≤ 1099511000000) :
    Calls Try.prog 35 #[.string x] w fun e w' => ((∃ q, kn x 0 = some q ∧ e = .returned (.tuple #[(.agg #[.int .i64 (wK x 0), .int .i64 (wN x 0), .string (wS x 0)]), .string (ex x q), .bool true])) ∨ (kn x 0 = none ∧ e = .returned (.tuple #[(.agg #[.int .i64 (0), .int .i64 (0), .string (⟨#[]⟩)]), .string ⟨#[]⟩, .bool false]))) ∧ Below w.heap.size w w' := by
  have hlt := bytN_lt x 0
  have hnn : ¬ x.size ≤ 0 := by omega
  by_cases k1 : bytN x 0 = 1
  · refine (vrk1 x w h0 k1).mono fun e w' ⟨h, hb⟩ => ⟨.inl ⟨1, ?_, ?_⟩, hb⟩
    · unfold kn; rw [if_neg hnn, if_pos (by omega)]
    · rw [h]; exact ret3 (V_eq (by unfold wK; rw [k1]; rfl) (by unfold wN; rw [k1]; rfl) (by unfold wS; rw [k1]; rfl)) rfl
  · by_cases k2 : bytN x 0 = 2
    · refine (vrk2 x w h0 k2).mono fun e w' ⟨h, hb⟩ => ⟨.inl ⟨1, ?_, ?_⟩, hb⟩
      · unfold kn; rw [if_neg hnn, if_pos (by omega)]
      · rw [h]; exact ret3 (V_eq (by unfold wK; rw [k2]; rfl) (by unfold wN; rw [k2]; rfl) (by unfold wS; rw [k2]; rfl)) rfl
    · by_cases k3 : bytN x 0 = 3
      · refine (vrk3 x w h0 k3).mono fun e w' ⟨h, hb⟩ => ⟨.inl ⟨1, ?_, ?_⟩, hb⟩
        · unfold kn; rw [if_neg hnn, if_pos (by omega)]
        · rw [h]; exact ret3 (V_eq (by unfold wK; rw [k3]; rfl) (by unfold wN; rw [k3]; rfl) (by unfold wS; rw [k3]; rfl)) rfl
      · by_cases k4 : bytN x 0 = 4
        · by_cases h9 : 9 ≤ x.size
          · refine (vrk4 x w h0 k4 h9).mono fun e w' ⟨h, hb⟩ => ⟨.inl ⟨9, ?_, ?_⟩, hb⟩
            · unfold kn; rw [if_neg hnn, if_neg (by omega), if_pos k4, if_pos (by omega)]
            · rw [h, ex_ex]; exact ret3 (V_eq (by unfold wK; rw [k4]; rfl) (by unfold wN; rw [k4]; rfl) (by unfold wS; rw [k4]; rfl)) rfl
          · refine (vrk4n x w h0 k4 (by omega)).mono fun e w' ⟨h, hb⟩ => ⟨.inr ⟨?_, h⟩, hb⟩
            unfold kn; rw [if_neg hnn, if_neg (by omega), if_pos k4, if_neg (by omega)]
        · by_cases k5 : bytN x 0 = 5
          · refine (vrk5 x w h0 k5 hx).mono fun e w' ⟨h, hb⟩ => ⟨?_, hb⟩
            rw [ll_ex] at h
            rcases h with ⟨t, q, h1, h2, h3⟩ | ⟨h2, h3⟩
            · rw [ex_size] at h1
              rw [List.drop_drop] at h2
              refine .inl ⟨1 + q, ?_, ?_⟩
              · unfold kn; rw [if_neg hnn, if_neg (by omega), if_neg k4, if_pos k5, h2]
                show some (x.size - ((ll x).drop (1 + q)).length) = _
                rw [List.length_drop, ll_len]
                congr 1
                omega
              · rw [h3, ex_ex]; exact ret3 (V_eq (by unfold wK; rw [k5]; rfl) (by unfold wN; rw [k5]; rfl) (by unfold wS xt; rw [if_pos k5, h2]; rfl)) rfl
            · refine .inr ⟨?_, h3⟩
              unfold kn; rw [if_neg hnn, if_neg (by omega), if_neg k4, if_pos k5, h2]; rfl
          · refine (vrkn x w h0 (by omega)).mono fun e w' ⟨h, hb⟩ => ⟨.inr ⟨?_, h⟩, hb⟩
            unfold kn; rw [if_neg hnn, if_neg (by omega), if_neg k4, if_neg k5]
theorem xt_ex (s : ByteArray) (p : Nat) : xt (ex s p) 0 = xt s p := by unfold xt; rw [ll_ex, List.drop_drop]
theorem wK_ex (s : ByteArray) (p : Nat) : wK (ex s p) 0 = wK s p := by unfold wK; rw [bytN_ex]; rfl
theorem wN_ex (s : ByteArray) (p : Nat) : wN (ex s p) 0 = wN s p := by unfold wN; rw [bytN_ex, ex_ex]; rfl
theorem wS_ex (s : ByteArray) (p : Nat) : wS (ex s p) 0 = wS s p := by unfold wS; rw [bytN_ex, xt_ex]; rfl
theorem kn_ex {s : ByteArray} {p : Nat} (h : p ≤ s.size) : kn s p = (kn (ex s p) 0).map (p + ·) := by
  unfold kn
  rw [bytN_ex, ex_size, ll_ex, List.drop_drop]
  simp only [Nat.add_zero, Nat.zero_add]
  by_cases h0 : s.size ≤ p
  · rw [if_pos h0, if_pos (show s.size - p ≤ 0 by omega)]; rfl
  · rw [if_neg h0, if_neg (show ¬ s.size - p ≤ 0 by omega)]
    split
    · rfl
    · split
      · by_cases h1 : p + 9 ≤ s.size
        · rw [if_pos h1, if_pos (by omega)]; rfl
        · rw [if_neg h1, if_neg (by omega)]; rfl
      · split
        · cases hu : unesc ((ll s).drop (p + 1)) with
          | none => rfl
          | some tr =>
            obtain ⟨t, r⟩ := tr
            have hl := congrArg List.length (unesc_some _ _ _ hu)
            rw [List.length_drop, ll_len] at hl
            simp at hl
            show some (s.size - r.length) = some (p + (s.size - p - r.length))
            congr 1
            omega
        · rfl
end Go.Proofs.Ythimnpobcfkghaa
