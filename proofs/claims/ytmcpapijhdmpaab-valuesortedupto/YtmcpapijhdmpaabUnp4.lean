/- relstoreref.Unpack -/
import Derived.Test.YtmcpapijhdmpaabUnp3
namespace Go.Proofs.Ytmcpapijhdmpaab
open Go.RowKit Go.Lib
attribute [local go_sem ↓] Go.wp_at_zero Go.wp_at_succ
theorem owns_slice {W : World} {base n : Nat} {v : Value} {xs : List Value} (h : W.ownsRow base 28 3 v n xs) : ∃ a cap, v = .slice a n cap := by
  rcases h.2 with ⟨rfl, h2⟩ | ⟨g, cap, cur, rfl, _⟩
  · exact ⟨none, 0, by rw [h2]⟩
  · exact ⟨_, cap, rfl⟩
theorem eq_one (s : ByteArray) (p : Nat) (h : p + 2 ≤ s.size) : ((s.extract (p + 1) (p + 2)).toList == [1]) = (bytN s (p + 1) == 1) := by
  have hl : p + 1 < (ll s).length := by rw [ll_len]; omega
  have e : (s.extract (p + 1) (p + 2)).toList = [(ll s)[p + 1]'hl] := by
    rw [ByteArray.toList_eq]
    show ll (s.extract (p + 1) (p + 2)) = _
    rw [ll_extract, List.drop_take, drop_cons hl, show p + 2 - (p + 1) = 1 by omega]
    rfl
  have e2 : ((ll s)[p + 1]'hl).toNat = bytN s (p + 1) := bytN_get (s := s) (i := p + 1) hl
  rw [e, Bool.eq_iff_iff, ← e2]
  simp only [beq_iff_eq, List.cons.injEq, and_true]
  constructor
  · intro h; rw [h]; rfl
  · intro h; exact UInt8.toNat_inj.1 h
theorem ub_8 (s : ByteArray) (p : Nat) (_h : p + 9 ≤ s.size) : ubN (s.extract (p + 1) (p + 1 + 8)) 8 = ubN (ex s (p + 1)) 8 :=
  ubN_ext 8 fun i hi => by rw [bytN_extract s (by omega), bytN_ex]
theorem ub_2 (s : ByteArray) (p : Nat) (_h : p + 3 ≤ s.size) : ubN (s.extract (p + 1) (p + 1 + 2)) 2 = szT s p := by
  show 256 * (256 * 0 + bytN (s.extract (p + 1) (p + 1 + 2)) 0) + bytN (s.extract (p + 1) (p + 1 + 2)) 1 = _
  rw [bytN_extract s (by omega), bytN_extract s (by omega)]
  unfold szT
  simp only [Nat.mul_zero, Nat.zero_add, Nat.add_zero]
theorem wrap64u (u : Nat) (h : u < 18446744073709551616) : wrap64 (u : Int) = sg u := by
  unfold sg wrap64
  split <;> omega
theorem szT_lt (s : ByteArray) (p : Nat) : szT s p < 65536 := by
  have := bytN_lt s (p + 1)
  have := bytN_lt s (p + 2)
  unfold szT
  omega
theorem str_neN {a b : ByteArray} (h : ¬ a = b) : (a.toList == b.toList) = false := by
  rw [beq_eq_false_iff_ne, ByteArray.toList_eq, ByteArray.toList_eq]
  exact fun e => h (ll_inj e)
theorem lies_owned {W : World} {base n cap : Nat} {a : Option Addr} {K N : Nat → Int} {S : Nat → ByteArray} (h : W.ownsRow base 28 3 (.slice a n cap) n (cellsF n K N S)) : LiesA W a n K N S := by
  by_cases h0 : n = 0
  · exact .inl h0
  · obtain ⟨g, cap', e, _, _⟩ := World.ownsRow.form h (by omega)
    injection e with e1 e2 e3
    subst e1
    refine .inr ⟨g, 0, rfl, lies_of_cells (xs := []) ?_⟩
    rw [List.append_nil]
    exact h.cells (g := g) rfl
end Go.Proofs.Ytmcpapijhdmpaab
