/- What a pattern says of a text, in plain lists; what a search that goes back to the last mark alone keeps; patterns one behind the other. -/
import Derived.Test.YtmkfkjicfmllmaaDoorBase
namespace Go.Proofs.YtmkfkjicfmllmaaDoor
open Go.RowKit

def M : List UInt8 → List UInt8 → Prop
  | [], s => s = []
  | c :: p, s => if c = 37 then ∃ t, M p (s.drop t) else ∃ d s', s = d :: s' ∧ (c = 95 ∨ c = d) ∧ M p s'

theorem M_nil (s : List UInt8) : M [] s ↔ s = [] := Iff.rfl
theorem M_star (p s : List UInt8) : M (37 :: p) s ↔ ∃ t, M p (s.drop t) := by
  show (if (37 : UInt8) = 37 then _ else _) ↔ _
  rw [if_pos rfl]
theorem M_ne {c : UInt8} (hc : ¬ c = 37) (p s : List UInt8) : M (c :: p) s ↔ ∃ d s', s = d :: s' ∧ (c = 95 ∨ c = d) ∧ M p s' := by
  show (if c = 37 then _ else _) ↔ _
  rw [if_neg hc]
theorem M_cons {c d : UInt8} (hc : ¬ c = 37) (p s : List UInt8) : M (c :: p) (d :: s) ↔ (c = 95 ∨ c = d) ∧ M p s := by
  rw [M_ne hc]
  constructor
  · rintro ⟨d', s', e, h, h'⟩
    obtain ⟨rfl, rfl⟩ := List.cons.inj e
    exact ⟨h, h'⟩
  · rintro ⟨h, h'⟩
    exact ⟨d, s, rfl, h, h'⟩
theorem M_cons_nil {c : UInt8} (hc : ¬ c = 37) (p : List UInt8) : ¬ M (c :: p) [] := by
  rw [M_ne hc]; rintro ⟨d, s', e, _⟩; cases e

theorem drop_cons {l : List UInt8} {i : Nat} (h : i < l.length) : l.drop i = l[i] :: l.drop (i + 1) := List.drop_eq_getElem_cons h

/- where the search stands: no mark yet -/
def S0 (p s : List UInt8) (k a : Nat) : Prop := M p s ↔ M (p.drop k) (s.drop a)
/- the last mark at l, from which t bytes were taken -/
def S1 (p s : List UInt8) (k a l t : Nat) : Prop := l < k ∧ t ≤ a ∧ (M (p.drop k) (s.drop a) → M (p.drop (l + 1)) (s.drop t)) ∧
  (∀ u, t ≤ u → M (p.drop (l + 1)) (s.drop u) → M (p.drop k) (s.drop (u + (a - t)))) ∧ (M p s ↔ ∃ u, t ≤ u ∧ M (p.drop (l + 1)) (s.drop u))

theorem S1_new {p s : List UInt8} {k a : Nat} (h : M p s ↔ ∃ u, a ≤ u ∧ M (p.drop (k + 1)) (s.drop u)) : S1 p s (k + 1) a k a :=
  ⟨by omega, Nat.le_refl _, id, fun u _ h => by simpa using h, h⟩
theorem star_at {p s : List UInt8} {k : Nat} (hk : k < p.length) (hc : p[k] = 37) (a : Nat) : M (p.drop k) (s.drop a) ↔ ∃ u, a ≤ u ∧ M (p.drop (k + 1)) (s.drop u) := by
  rw [drop_cons hk, hc, M_star]
  constructor
  · rintro ⟨t, h⟩; rw [List.drop_drop] at h; exact ⟨a + t, by omega, h⟩
  · rintro ⟨u, hu, h⟩; refine ⟨u - a, ?_⟩; rw [List.drop_drop, show a + (u - a) = u by omega]; exact h
theorem S0_star {p s : List UInt8} {k a : Nat} (h : S0 p s k a) (hk : k < p.length) (hc : p[k] = 37) : S1 p s (k + 1) a k a :=
  S1_new (h.trans (star_at hk hc a))
theorem S1_star {p s : List UInt8} {k a l t : Nat} (h : S1 p s k a l t) (hk : k < p.length) (hc : p[k] = 37) : S1 p s (k + 1) a k a := by
  obtain ⟨_, hta, hA, hB, hC⟩ := h
  refine S1_new ⟨fun hm => ?_, fun ⟨u, hu, hm⟩ => ?_⟩
  · obtain ⟨u, hu, hm⟩ := hC.1 hm
    obtain ⟨v, hv, hm⟩ := (star_at hk hc _).1 (hB u hu hm)
    exact ⟨v, by omega, hm⟩
  · exact hC.2 ⟨t, Nat.le_refl _, hA ((star_at hk hc a).2 ⟨u, hu, hm⟩)⟩
theorem one_at {p s : List UInt8} {k a : Nat} (hk : k < p.length) (hc : ¬ p[k] = 37) (ha : a < s.length) : M (p.drop k) (s.drop a) ↔ (p[k] = 95 ∨ p[k] = s[a]) ∧ M (p.drop (k + 1)) (s.drop (a + 1)) := by
  rw [drop_cons hk, drop_cons ha, M_cons hc]
theorem S0_one {p s : List UInt8} {k a : Nat} (h : S0 p s k a) (hk : k < p.length) (hc : ¬ p[k] = 37) (ha : a < s.length) (hm : p[k] = 95 ∨ p[k] = s[a]) : S0 p s (k + 1) (a + 1) :=
  h.trans ((one_at hk hc ha).trans ⟨fun h => h.2, fun h => ⟨hm, h⟩⟩)
theorem S1_one {p s : List UInt8} {k a l t : Nat} (h : S1 p s k a l t) (hk : k < p.length) (hc : ¬ p[k] = 37) (ha : a < s.length) (hm : p[k] = 95 ∨ p[k] = s[a]) : S1 p s (k + 1) (a + 1) l t := by
  obtain ⟨hl, hta, hA, hB, hC⟩ := h
  refine ⟨by omega, by omega, fun h => hA ((one_at hk hc ha).2 ⟨hm, h⟩), fun u hu h => ?_, hC⟩
  have h' := hB u hu h
  rw [drop_cons hk, M_ne hc] at h'
  obtain ⟨d, s', e, _, hm'⟩ := h'
  have e' : s' = s.drop (u + (a - t) + 1) := by
    have := congrArg List.tail e
    simpa [List.tail_drop] using this.symm
  rw [show u + (a + 1 - t) = u + (a - t) + 1 by omega, ← e']
  exact hm'
theorem no_more {p s : List UInt8} {k a : Nat} (hk : p.length ≤ k) (ha : a < s.length) : ¬ M (p.drop k) (s.drop a) := by
  rw [List.drop_of_length_le hk, drop_cons ha]; intro h; cases h
theorem no_one {p s : List UInt8} {k a : Nat} (hk : k < p.length) (hc : ¬ p[k] = 37) (ha : a < s.length) (hm : ¬ (p[k] = 95 ∨ p[k] = s[a])) : ¬ M (p.drop k) (s.drop a) :=
  fun h => hm ((one_at hk hc ha).1 h).1
theorem S1_back {p s : List UInt8} {k a l t : Nat} (h : S1 p s k a l t) (hn : ¬ M (p.drop k) (s.drop a)) : S1 p s (l + 1) (t + 1) l (t + 1) := by
  obtain ⟨hl, hta, hA, hB, hC⟩ := h
  refine ⟨by omega, Nat.le_refl _, id, fun u _ h => by simpa using h, hC.trans ⟨fun ⟨u, hu, hm⟩ => ?_, fun ⟨u, hu, hm⟩ => ⟨u, by omega, hm⟩⟩⟩
  refine ⟨u, ?_, hm⟩
  rcases Nat.lt_or_ge t u with h | h
  · exact h
  · exfalso
    have : u = t := by omega
    subst this
    apply hn
    have := hB u (Nat.le_refl _) hm
    rwa [show u + (a - u) = a by omega] at this
theorem S0_end {p s : List UInt8} {k a : Nat} (h : S0 p s k a) (ha : s.length ≤ a) : M p s ↔ M (p.drop k) [] := by
  unfold S0 at h
  rwa [List.drop_of_length_le ha] at h
theorem S1_end {p s : List UInt8} {k a l t : Nat} (h : S1 p s k a l t) (ha : s.length ≤ a) : M p s ↔ M (p.drop k) [] := by
  obtain ⟨hl, hta, hA, hB, hC⟩ := h
  rw [List.drop_of_length_le ha] at hA
  refine ⟨fun hm => ?_, fun hm => hC.2 ⟨t, Nat.le_refl _, hA hm⟩⟩
  obtain ⟨u, hu, hm⟩ := hC.1 hm
  have := hB u hu hm
  rwa [List.drop_of_length_le (show s.length ≤ u + (a - t) by omega)] at this
theorem tail_star {p : List UInt8} {k : Nat} (hk : k < p.length) (hc : p[k] = 37) : M (p.drop k) [] ↔ M (p.drop (k + 1)) [] := by
  rw [drop_cons hk, hc, M_star]
  constructor
  · rintro ⟨t, h⟩; simpa using h
  · intro h; exact ⟨0, h⟩
theorem tail_no {p : List UInt8} {k : Nat} (hk : k < p.length) (hc : ¬ p[k] = 37) : ¬ M (p.drop k) [] := by
  rw [drop_cons hk]; exact M_cons_nil hc _
theorem tail_end {p : List UInt8} {k : Nat} (hk : p.length ≤ k) : M (p.drop k) [] := by
  rw [List.drop_of_length_le hk]; rfl

/- how much of the search is left -/
def left (N a b c : Nat) : Nat := (a * (N + 1) + b) * (N + 1) + c
theorem left_c {N a b c c' : Nat} (h : c' < c) : left N a b c' < left N a b c := by unfold left; omega
theorem left_b {N a b b' c c' : Nat} (h : b' < b) (hc : c' ≤ N) : left N a b' c' < left N a b c := by
  unfold left
  have : (a * (N + 1) + b' + 1) * (N + 1) ≤ (a * (N + 1) + b) * (N + 1) := Nat.mul_le_mul_right _ (by omega)
  rw [Nat.add_mul (a * (N + 1) + b') 1 (N + 1)] at this
  omega
theorem left_a {N a a' b b' c c' : Nat} (h : a' < a) (hb : b' ≤ N) (hc : c' ≤ N) : left N a' b' c' < left N a b c := by
  have h1 : (a' + 1) * (N + 1) ≤ a * (N + 1) := Nat.mul_le_mul_right _ (by omega)
  rw [Nat.add_mul a' 1 (N + 1)] at h1
  unfold left
  have : (a' * (N + 1) + b' + 1) * (N + 1) ≤ (a * (N + 1) + b) * (N + 1) := Nat.mul_le_mul_right _ (by omega)
  rw [Nat.add_mul (a' * (N + 1) + b') 1 (N + 1)] at this
  omega

/- the laws -/
theorem M_all (s : List UInt8) : M [37] s := (M_star _ _).2 ⟨s.length, by rw [List.drop_length]; rfl⟩
theorem M_none : ¬ M [95] [] := M_cons_nil (by decide) _
theorem M_some (s : List UInt8) : M [95, 37] s ↔ ¬ s = [] := by
  rw [M_ne (by decide)]
  constructor
  · rintro ⟨d, s', rfl, _⟩ h; cases h
  · intro h
    cases s with
    | nil => exact absurd rfl h
    | cons d s' => exact ⟨d, s', rfl, Or.inl rfl, M_all s'⟩
def plain (p : List UInt8) : Prop := ∀ c ∈ p, ¬ c = 37 ∧ ¬ c = 95
theorem M_plain : ∀ {p : List UInt8} (_ : plain p) (s : List UInt8), M p s ↔ s = p
  | [], _, s => Iff.rfl
  | c :: p, h, s => by
    have hc := h c (by simp)
    have hp : plain p := fun d hd => h d (by simp [hd])
    rw [M_ne hc.1]
    constructor
    · rintro ⟨d, s', rfl, h1, h2⟩
      rcases h1 with h1 | h1
      · exact absurd h1 hc.2
      · rw [h1, (M_plain hp s').1 h2]
    · rintro rfl
      exact ⟨c, p, rfl, Or.inr rfl, (M_plain hp p).2 rfl⟩
theorem M_starts : ∀ {p : List UInt8} (_ : plain p) (s : List UInt8), M (p ++ [37]) s ↔ s.take p.length = p
  | [], _, s => by simp [M_all]
  | c :: p, h, s => by
    have hc := h c (by simp)
    have hp : plain p := fun d hd => h d (by simp [hd])
    rw [List.cons_append, M_ne hc.1]
    constructor
    · rintro ⟨d, s', rfl, h1, h2⟩
      rcases h1 with h1 | h1
      · exact absurd h1 hc.2
      · simp [h1, (M_starts hp s').1 h2]
    · intro e
      cases s with
      | nil => simp at e
      | cons d s' =>
        simp only [List.length_cons, List.take_succ_cons, List.cons.injEq] at e
        exact ⟨d, s', rfl, Or.inr e.1.symm, (M_starts hp s').2 e.2⟩
theorem M_app : ∀ {p s q t : List UInt8}, M p s → M q t → M (p ++ q) (s ++ t)
  | [], s, q, t, h, h' => by
    have : s = [] := h
    subst this; exact h'
  | c :: p, s, q, t, h, h' => by
    by_cases hc : c = 37
    · subst hc
      rw [M_star] at h
      obtain ⟨u, h⟩ := h
      rw [List.cons_append, M_star]
      refine ⟨min u s.length, ?_⟩
      have e : (s ++ t).drop (min u s.length) = s.drop u ++ t := by
        rw [List.drop_append_of_le_length (by omega)]
        congr 1
        rcases Nat.le_total u s.length with h1 | h1
        · rw [Nat.min_eq_left h1]
        · rw [Nat.min_eq_right h1, List.drop_length, List.drop_of_length_le h1]
      rw [e]
      exact M_app h h'
    · rw [M_ne hc] at h
      obtain ⟨d, s', rfl, h1, h2⟩ := h
      rw [List.cons_append, List.cons_append, M_cons hc]
      exact ⟨h1, M_app h2 h'⟩
theorem M_app_star {p s q t : List UInt8} (h : M p s) (h' : M q t) : M (p ++ [37] ++ q) (s ++ t) := by
  rw [List.append_assoc]
  exact M_app h ((M_star _ _).2 ⟨0, h'⟩)
end Go.Proofs.YtmkfkjicfmllmaaDoor
