/- Patterns in plain lists, from the end: what one more sign of the pattern asks. -/
import Derived.Test.YtmkfkjicfmllmaaDoorLike0
namespace Go.Proofs.YtmkfkjicfmllmaaDoor
theorem take_drop_swap (s : List UInt8) (t j : Nat) : (s.drop t).take j = (s.take (t + j)).drop t := by
  rw [List.drop_take]; congr 1; omega
theorem M_snoc_star : ∀ (p s : List UInt8), M (p ++ [37]) s ↔ ∃ j, M p (s.take j)
  | [], s => by
    constructor
    · intro _; exact ⟨0, rfl⟩
    · intro _; exact M_all s
  | c :: p, s => by
    by_cases hc : c = 37
    · subst hc
      show M (37 :: (p ++ [37])) s ↔ _
      rw [M_star]
      constructor
      · rintro ⟨t, h⟩
        obtain ⟨j, h⟩ := (M_snoc_star p (s.drop t)).1 h
        exact ⟨t + j, (M_star _ _).2 ⟨t, by rw [← take_drop_swap]; exact h⟩⟩
      · rintro ⟨j, h⟩
        obtain ⟨t, h⟩ := (M_star _ _).1 h
        refine ⟨t, (M_snoc_star p (s.drop t)).2 ⟨j - t, ?_⟩⟩
        rw [← List.drop_take]; exact h
    · show M (c :: (p ++ [37])) s ↔ _
      rw [M_ne hc]
      constructor
      · rintro ⟨d, s', rfl, h1, h2⟩
        obtain ⟨j, h⟩ := (M_snoc_star p s').1 h2
        exact ⟨j + 1, (M_ne hc _ _).2 ⟨d, s'.take j, rfl, h1, h⟩⟩
      · rintro ⟨j, h⟩
        obtain ⟨d, s', e, h1, h2⟩ := (M_ne hc _ _).1 h
        cases s with
        | nil => simp at e
        | cons x s1 =>
          cases j with
          | zero => simp at e
          | succ j =>
            rw [List.take_succ_cons] at e
            injection e with e1 e2
            subst e1 e2
            exact ⟨x, s1, rfl, h1, (M_snoc_star p s1).2 ⟨j, h2⟩⟩
theorem M_snoc_ne {c : UInt8} (hc : ¬ c = 37) : ∀ (p s : List UInt8), M (p ++ [c]) s ↔ ∃ s' d, s = s' ++ [d] ∧ (c = 95 ∨ c = d) ∧ M p s'
  | [], s => by
    show M [c] s ↔ _
    rw [M_ne hc]
    constructor
    · rintro ⟨d, s', rfl, h1, h2⟩
      have h2 : s' = [] := h2
      subst h2
      exact ⟨[], d, rfl, h1, rfl⟩
    · rintro ⟨s', d, rfl, h1, h2⟩
      have h2 : s' = [] := h2
      subst h2
      exact ⟨d, [], rfl, h1, rfl⟩
  | e :: p, s => by
    by_cases he : e = 37
    · subst he
      show M (37 :: (p ++ [c])) s ↔ _
      rw [M_star]
      constructor
      · rintro ⟨t, h⟩
        obtain ⟨s', d, e1, h1, h2⟩ := (M_snoc_ne hc p (s.drop t)).1 h
        refine ⟨s.take t ++ s', d, ?_, h1, (M_star _ _).2 ⟨(s.take t).length, ?_⟩⟩
        · rw [List.append_assoc, ← e1, List.take_append_drop]
        · rw [List.drop_left]; exact h2
      · rintro ⟨s', d, rfl, h1, h2⟩
        obtain ⟨t, h2⟩ := (M_star _ _).1 h2
        by_cases ht : t ≤ s'.length
        · exact ⟨t, (M_snoc_ne hc p _).2 ⟨s'.drop t, d, by rw [List.drop_append_of_le_length ht], h1, h2⟩⟩
        · refine ⟨s'.length, (M_snoc_ne hc p _).2 ⟨[], d, by rw [List.drop_left]; rfl, h1, ?_⟩⟩
          rw [List.drop_eq_nil_of_le (by omega)] at h2; exact h2
    · show M (e :: (p ++ [c])) s ↔ _
      rw [M_ne he]
      constructor
      · rintro ⟨x, s1, rfl, h1, h2⟩
        obtain ⟨s', d, rfl, h3, h4⟩ := (M_snoc_ne hc p s1).1 h2
        exact ⟨x :: s', d, rfl, h3, (M_ne he _ _).2 ⟨x, s', rfl, h1, h4⟩⟩
      · rintro ⟨s', d, rfl, h1, h2⟩
        obtain ⟨x, s1, rfl, h3, h4⟩ := (M_ne he _ _).1 h2
        exact ⟨x, s1 ++ [d], rfl, h3, (M_snoc_ne hc p _).2 ⟨s1, d, rfl, h1, h4⟩⟩
/- may this place of the text be come to behind so much of the pattern? -/
def Rch (p s : List UInt8) (k i : Nat) : Prop := M (p.take k) (s.take i)
theorem Rch_zero (p s : List UInt8) (i : Nat) (hi : i ≤ s.length) : Rch p s 0 i ↔ i = 0 := by
  show M (p.take 0) (s.take i) ↔ _
  rw [List.take_zero, M_nil]
  constructor
  · intro h
    have := congrArg List.length h
    rw [List.length_take, List.length_nil] at this
    omega
  · intro h; subst h; rfl
theorem Rch_all (p s : List UInt8) : Rch p s p.length s.length ↔ M p s := by
  show M (p.take _) (s.take _) ↔ _
  rw [List.take_length, List.take_length]
theorem Rch_star {p s : List UInt8} {k : Nat} (hk : k < p.length) (hc : p[k] = 37) {i : Nat} : Rch p s (k + 1) i ↔ ∃ j, j ≤ i ∧ Rch p s k j := by
  show M (p.take (k + 1)) (s.take i) ↔ _
  rw [List.take_add_one, List.getElem?_eq_getElem hk, hc]
  show M (p.take k ++ [37]) (s.take i) ↔ _
  rw [M_snoc_star]
  constructor
  · rintro ⟨j, h⟩
    rw [List.take_take] at h
    exact ⟨min j i, by omega, h⟩
  · rintro ⟨j, hj, h⟩
    refine ⟨j, ?_⟩
    rw [List.take_take, Nat.min_eq_left hj]; exact h
theorem Rch_one {p s : List UInt8} {k : Nat} (hk : k < p.length) (hc : ¬ p[k] = 37) {i : Nat} (hi : i < s.length) : Rch p s (k + 1) (i + 1) ↔ (p[k] = 95 ∨ p[k] = s[i]) ∧ Rch p s k i := by
  show M (p.take (k + 1)) (s.take (i + 1)) ↔ _
  rw [List.take_add_one, List.getElem?_eq_getElem hk]
  show M (p.take k ++ [p[k]]) (s.take (i + 1)) ↔ _
  rw [M_snoc_ne hc, List.take_add_one, List.getElem?_eq_getElem hi]
  constructor
  · rintro ⟨s', d, e, h1, h2⟩
    obtain ⟨e1, e2⟩ := List.append_inj' (show s.take i ++ [s[i]] = s' ++ [d] from e) rfl
    injection e2 with e2
    subst e1 e2
    exact ⟨h1, h2⟩
  · rintro ⟨h1, h2⟩
    exact ⟨_, _, rfl, h1, h2⟩
theorem Rch_one0 {p s : List UInt8} {k : Nat} (hk : k < p.length) (hc : ¬ p[k] = 37) : ¬ Rch p s (k + 1) 0 := by
  show ¬ M (p.take (k + 1)) (s.take 0)
  rw [List.take_add_one, List.getElem?_eq_getElem hk]
  show ¬ M (p.take k ++ [p[k]]) (s.take 0)
  rw [M_snoc_ne hc]
  rintro ⟨s', d, e, _⟩
  simp at e
end Go.Proofs.YtmkfkjicfmllmaaDoor
