/- value.readPacked, in one; value.Unpack -/
import Derived.Test.YthimnpobcfkghaaUnp1
import Derived.Test.YthimnpobcfkghaaLent
namespace Go.Proofs.Ythimnpobcfkghaa
open Go.RowKit Go.Lib
attribute [local go_sem ↓] Go.wp_at_zero Go.wp_at_succ
theorem empty_of {x : ByteArray} (h : ¬ 0 < x.size) : x = ⟨#[]⟩ := ll_inj (List.eq_nil_of_length_eq_zero (by rw [ll_len]; omega))
set_option maxHeartbeats 600000 in
theorem vreadPz (w : World) :
    Calls Try.prog 47 #[.string ⟨#[]⟩] w fun e w' => e = .returned (.tuple #[(.agg #[.int .i64 (0), .int .i64 (0), .string (⟨#[]⟩)]), .string ⟨#[]⟩, .bool false]) ∧ Below w.heap.size w w' := by
  go_enter Try.func47, Try.ntmps47
  go_wp2_with fail
  refine bodyPost_ret (v := .tuple #[(.agg #[.int .i64 (0), .int .i64 (0), .string (⟨#[]⟩)]), .string ⟨#[]⟩, .bool false]) (by simp [results, Try.results47, go_sem, *]) rfl ⟨rfl, ?_⟩
  first | exact ((Below.refl _ _).alloc (Nat.le_refl _) _) | exact (((((Below.refl _ _).alloc (Nat.le_refl _) _)).setCell (by simp <;> omega) _).setCell (by simp <;> omega) _).setCell (by simp <;> omega) _
theorem V_eq {k k' n n' : Int} {s s' : ByteArray} (h1 : k = k') (h2 : n = n') (h3 : s = s') : ((.agg #[.int .i64 (k), .int .i64 (n), .string (s)]) : Value) = (.agg #[.int .i64 (k'), .int .i64 (n'), .string (s')]) := by rw [h1, h2, h3]
theorem vreadP (x : ByteArray) (w : World) :
    Calls Try.prog 47 #[.string x] w fun e w' => ((∃ q, sxt x 0 = some q ∧ e = .returned (.tuple #[(.agg #[.int .i64 (vK x 0), .int .i64 (vN x 0), .string (vS x 0)]), .string (ex x q), .bool true])) ∨ (sxt x 0 = none ∧ e = .returned (.tuple #[(.agg #[.int .i64 (0), .int .i64 (0), .string (⟨#[]⟩)]), .string ⟨#[]⟩, .bool false]))) ∧ Below w.heap.size w w' := by
  by_cases h0 : 0 < x.size
  · have hlt := bytN_lt x 0
    by_cases k0 : bytN x 0 = 0
    · refine (vreadP0 x w h0 k0).mono fun e w' ⟨h, hb⟩ => ⟨.inl ⟨1, ?_, ?_⟩, hb⟩
      · unfold sxt okV nxt; rw [if_neg (show ¬ x.size ≤ 0 by omega)]; simp [k0]
      · rw [h]; exact ret3 (V_eq (by unfold vK; omega) (by unfold vN; rw [k0]; rfl) (by unfold vS; rw [k0]; rfl)) rfl
    · by_cases k1 : bytN x 0 = 1
      · by_cases h1 : 2 ≤ x.size
        · by_cases h2 : bytN x 1 ≤ 1
          · refine (vreadP1 x w h0 k1 h1 h2).mono fun e w' ⟨h, hb⟩ => ⟨.inl ⟨2, ?_, ?_⟩, hb⟩
            · unfold sxt okV nxt; rw [if_neg (show ¬ x.size ≤ 0 by omega)]; simp [k1, h1, h2]
            · rw [h, ex_ex]; exact ret3 (V_eq (by unfold vK; omega) (by unfold vN; rw [if_pos k1]) (by unfold vS; rw [k1]; rfl)) rfl
          · refine (vreadPnb x w h0 k1 h1 (by omega)).mono fun e w' ⟨h, hb⟩ => ⟨.inr ⟨?_, h⟩, hb⟩
            unfold sxt okV; simp [k1, h2]
        · refine (vreadPna x w h0 k1 (by omega)).mono fun e w' ⟨h, hb⟩ => ⟨.inr ⟨?_, h⟩, hb⟩
          unfold sxt okV nxt; rw [if_neg (show ¬ x.size ≤ 0 by omega)]; simp [k1]; omega
      · by_cases k2 : bytN x 0 = 2
        · by_cases h1 : 9 ≤ x.size
          · refine (vreadP2 x w h0 k2 h1).mono fun e w' ⟨h, hb⟩ => ⟨.inl ⟨9, ?_, ?_⟩, hb⟩
            · unfold sxt okV nxt; rw [if_neg (show ¬ x.size ≤ 0 by omega)]; simp [k2, h1]
            · rw [h, ex_ex]; exact ret3 (V_eq (by unfold vK; omega) (by unfold vN; rw [if_neg k1, if_pos k2]) (by unfold vS; rw [k2]; rfl)) rfl
          · refine (vreadPnc x w h0 k2 (by omega)).mono fun e w' ⟨h, hb⟩ => ⟨.inr ⟨?_, h⟩, hb⟩
            unfold sxt okV nxt; rw [if_neg (show ¬ x.size ≤ 0 by omega)]; simp [k2]; omega
        · by_cases k3 : bytN x 0 = 3
          · by_cases h1 : 3 ≤ x.size
            · by_cases h2 : szT x 0 ≤ 1000 ∧ 3 + szT x 0 ≤ x.size
              · refine (vreadP3 x w h0 k3 h1 h2.1 h2.2).mono fun e w' ⟨h, hb⟩ => ⟨.inl ⟨3 + szT x 0, ?_, ?_⟩, hb⟩
                · unfold sxt okV nxt; rw [if_neg (show ¬ x.size ≤ 0 by omega)]; simp [k3, h1, h2]
                · rw [h, ex_ex, ex_ex]
                  refine ret3 (V_eq (by unfold vK; omega) (by unfold vN; rw [if_neg k1, if_neg k2]) ?_) rfl
                  unfold vS; rw [if_pos k3]; first | rfl | (rw [ex_extract])
              · refine (vreadP3n x w h0 k3 h1 h2).mono fun e w' ⟨h, hb⟩ => ⟨.inr ⟨?_, h⟩, hb⟩
                unfold sxt okV nxt
                rw [if_neg (show ¬ x.size ≤ 0 by omega)]
                by_cases h3 : szT x 0 ≤ 1000
                · simp [k3, h3]; omega
                · simp [k3, h3]
            · refine (vreadPnd x w h0 k3 (by omega)).mono fun e w' ⟨h, hb⟩ => ⟨.inr ⟨?_, h⟩, hb⟩
              unfold sxt okV nxt; rw [if_neg (show ¬ x.size ≤ 0 by omega)]; simp [k3]; omega
          · refine (vreadPne x w h0 (by omega)).mono fun e w' ⟨h, hb⟩ => ⟨.inr ⟨?_, h⟩, hb⟩
            unfold sxt okV nxt; rw [if_neg (show ¬ x.size ≤ 0 by omega)]; simp [k0, k1, k2, k3]
  · obtain rfl := empty_of h0
    refine (vreadPz w).mono fun e w' ⟨h, hb⟩ => ⟨.inr ⟨?_, h⟩, hb⟩
    unfold sxt nxt
    rw [if_pos (show (⟨#[]⟩ : ByteArray).size ≤ 0 from Nat.le_refl _)]
    split <;> rfl
end Go.Proofs.Ythimnpobcfkghaa
