/- A key as bytes, in plain functions. -/
import Derived.Test.YthimnpobcfkghaaUnp5
import Derived.Deep.RegionLaw
namespace Go.Proofs.Ythimnpobcfkghaa
open Go.RowKit
/- a text in a key: each byte 0 is 0, 255 -/
def esc : List UInt8 → List UInt8
  | [] => []
  | b :: r => (if b = 0 then [0, 255] else [b]) ++ esc r
theorem esc_app : ∀ a b : List UInt8, esc (a ++ b) = esc a ++ esc b
  | [], b => rfl
  | x :: a, b => by
    show (if x = 0 then [0, 255] else [x]) ++ esc (a ++ b) = ((if x = 0 then [0, 255] else [x]) ++ esc a) ++ esc b
    rw [esc_app a b, List.append_assoc]
theorem esc_one (b : UInt8) : esc [b] = if b = 0 then [0, 255] else [b] := by
  show (if b = 0 then [0, 255] else [b]) ++ [] = _
  rw [List.append_nil]
theorem esc_len : ∀ l : List UInt8, (esc l).length ≤ 2 * l.length
  | [] => Nat.le_refl _
  | b :: r => by
    have := esc_len r
    show ((if b = 0 then [0, 255] else [b]) ++ esc r).length ≤ 2 * (r.length + 1)
    rw [List.length_append]
    split <;> simp <;> omega
def kyV (k n : Int) (s : ByteArray) : List UInt8 := if k = 1 then [if n = 0 then 2 else 3] else if k = 2 then 4 :: beN ((n + 9223372036854775808) % 18446744073709551616).toNat 8 else if k = 3 then 5 :: (esc (ll s) ++ [0, 1]) else [1]
def kyL (K N : Nat → Int) (S : Nat → ByteArray) : Nat → List UInt8
  | 0 => []
  | i + 1 => kyL K N S i ++ kyV (K i) (N i) (S i)
def lenS (S : Nat → ByteArray) : Nat → Nat
  | 0 => 0
  | i + 1 => lenS S i + (S i).size
theorem beN_lenP : ∀ n k, (beN n k).length = k
  | _, 0 => rfl
  | n, k + 1 => by show (beN (n / 256) k ++ [UInt8.ofNat n]).length = k + 1; simp [beN_lenP]
theorem kyV_len (k n : Int) (s : ByteArray) : (kyV k n s).length ≤ 9 + 2 * s.size := by
  unfold kyV
  split
  · simp; omega
  · split
    · simp [beN_lenP]
    · split
      · have := esc_len (ll s)
        rw [ll_len] at this
        simp
        omega
      · simp; omega
theorem kyL_len (K N : Nat → Int) (S : Nat → ByteArray) : ∀ n, (kyL K N S n).length ≤ 9 * n + 2 * lenS S n
  | 0 => Nat.le_refl _
  | n + 1 => by
    have h1 := kyL_len K N S n
    have h2 := kyV_len (K n) (N n) (S n)
    show (kyL K N S n ++ kyV (K n) (N n) (S n)).length ≤ 9 * (n + 1) + 2 * (lenS S n + (S n).size)
    rw [List.length_append]
    omega
/- reading a text: strictly; loosely -/
def unesc : List UInt8 → Option (List UInt8 × List UInt8)
  | [] => none
  | [_] => none
  | b :: c :: r => if b = 0 then (if c = 255 then (unesc r).map (fun p => (0 :: p.1, p.2)) else if c = 1 then some ([], r) else none) else (unesc (c :: r)).map (fun p => (b :: p.1, p.2))
def loose : List UInt8 → List UInt8
  | [] => []
  | [_] => []
  | b :: c :: r => if b = 0 ∧ c = 1 then [] else b :: (if b = 0 then loose r else loose (c :: r))
theorem unesc_of : ∀ (t r : List UInt8), unesc (esc t ++ 0 :: 1 :: r) = some (t, r)
  | [], r => rfl
  | b :: t, r => by
    have ih := unesc_of t r
    show unesc (((if b = 0 then [0, 255] else [b]) ++ esc t) ++ 0 :: 1 :: r) = _
    split
    · rename_i h
      subst h
      show ((unesc (esc t ++ 0 :: 1 :: r)).map (fun p => ((0 : UInt8) :: p.1, p.2))) = _
      rw [ih]; rfl
    · rename_i h
      obtain ⟨c, r', e⟩ : ∃ c r', esc t ++ 0 :: 1 :: r = c :: r' := by
        cases he : esc t with
        | nil => exact ⟨_, _, rfl⟩
        | cons c l => exact ⟨c, l ++ 0 :: 1 :: r, rfl⟩
      show unesc (b :: (esc t ++ 0 :: 1 :: r)) = _
      rw [e] at ih ⊢
      show (if b = 0 then _ else (unesc (c :: r')).map (fun p => (b :: p.1, p.2))) = _
      rw [if_neg h, ih]; rfl
theorem loose_of : ∀ (t r : List UInt8), loose (esc t ++ 0 :: 1 :: r) = t
  | [], r => rfl
  | b :: t, r => by
    have ih := loose_of t r
    show loose (((if b = 0 then [0, 255] else [b]) ++ esc t) ++ 0 :: 1 :: r) = _
    split
    · rename_i h
      subst h
      show (0 : UInt8) :: loose (esc t ++ 0 :: 1 :: r) = _
      rw [ih]
    · rename_i h
      obtain ⟨c, r', e⟩ : ∃ c r', esc t ++ 0 :: 1 :: r = c :: r' := by
        cases he : esc t with
        | nil => exact ⟨_, _, rfl⟩
        | cons c l => exact ⟨c, l ++ 0 :: 1 :: r, rfl⟩
      show loose (b :: (esc t ++ 0 :: 1 :: r)) = _
      rw [e] at ih ⊢
      show (if b = 0 ∧ c = 1 then [] else b :: (if b = 0 then loose r' else loose (c :: r'))) = _
      rw [if_neg (fun h' => h h'.1), if_neg h, ih]
theorem unesc_some : ∀ (l t r : List UInt8), unesc l = some (t, r) → l = esc t ++ 0 :: 1 :: r
  | [], _, _, h => by cases h
  | [_], _, _, h => by cases h
  | b :: c :: l, t, r, h => by
    have h' : (if b = 0 then (if c = 255 then (unesc l).map (fun p => ((0 : UInt8) :: p.1, p.2)) else if c = 1 then some ([], l) else none) else (unesc (c :: l)).map (fun p => (b :: p.1, p.2))) = some (t, r) := h
    split at h'
    · rename_i hb
      split at h'
      · rename_i hc
        cases hu : unesc l with
        | none => rw [hu] at h'; cases h'
        | some p =>
          obtain ⟨t', r'⟩ := p
          rw [hu] at h'
          have ih := unesc_some l t' r' hu
          cases h'
          rw [hb, hc, ih]
          rfl
      · split at h'
        · rename_i hc
          cases h'
          rw [hb, hc]; rfl
        · cases h'
    · rename_i hb
      cases hu : unesc (c :: l) with
      | none => rw [hu] at h'; cases h'
      | some p =>
        obtain ⟨t', r'⟩ := p
        rw [hu] at h'
        have ih := unesc_some (c :: l) t' r' hu
        cases h'
        rw [ih]
        show b :: _ = ((if b = 0 then [0, 255] else [b]) ++ esc t') ++ _
        rw [if_neg hb]
        rfl
/- a value at a byte of a key -/
def xt (s : ByteArray) (p : Nat) : List UInt8 := ((unesc ((ll s).drop (p + 1))).map (·.1)).getD []
def wK (s : ByteArray) (p : Nat) : Int := if bytN s p = 2 ∨ bytN s p = 3 then 1 else if bytN s p = 4 then 2 else if bytN s p = 5 then 3 else 0
def wN (s : ByteArray) (p : Nat) : Int := if bytN s p = 3 then 1 else if bytN s p = 4 then (ubN (ex s (p + 1)) 8 : Int) - 9223372036854775808 else 0
def wS (s : ByteArray) (p : Nat) : ByteArray := if bytN s p = 5 then ⟨(xt s p).toArray⟩ else ⟨#[]⟩
def kn (s : ByteArray) (p : Nat) : Option Nat :=
  if s.size ≤ p then none else if 1 ≤ bytN s p ∧ bytN s p ≤ 3 then some (p + 1) else if bytN s p = 4 then (if p + 9 ≤ s.size then some (p + 9) else none)
  else if bytN s p = 5 then (unesc ((ll s).drop (p + 1))).map (fun q => s.size - q.2.length) else none
theorem ll_mk (l : List UInt8) : ll ⟨l.toArray⟩ = l := rfl
theorem drop_of_suffix {l a r : List UInt8} (h : l = a ++ r) : r = l.drop (l.length - r.length) := by
  subst h
  rw [List.length_append, Nat.add_sub_cancel, List.drop_left]
theorem kn_bytes {s : ByteArray} {p q : Nat} (h : kn s p = some q) : (ll s).drop p = kyV (wK s p) (wN s p) (wS s p) ++ (ll s).drop q ∧ p < q ∧ q ≤ s.size := by
  unfold kn at h
  split at h
  · cases h
  · rename_i hsz
    have hlt : p < s.size := by omega
    rw [dropE hlt]
    split at h
    · rename_i hb
      cases h
      refine ⟨?_, by omega, by omega⟩
      have hc : bytN s p = 1 ∨ bytN s p = 2 ∨ bytN s p = 3 := by omega
      rcases hc with hc | hc | hc <;> unfold wK wN kyV <;> rw [hc] <;> rfl
    · split at h
      · rename_i hb h4
        split at h
        · rename_i h9
          cases h
          refine ⟨?_, by omega, by omega⟩
          have e1 : wK s p = 2 := by unfold wK; rw [h4]; rfl
          have e2 : wN s p = (ubN (ex s (p + 1)) 8 : Int) - 9223372036854775808 := by unfold wN; rw [h4]; rfl
          have hu : ubN (ex s (p + 1)) 8 < 18446744073709551616 := by
            have := ubN_lt (ex s (p + 1)) 8
            have e : (256 : Nat) ^ 8 = 18446744073709551616 := by decide
            omega
          have e3 : (((ubN (ex s (p + 1)) 8 : Int) - 9223372036854775808 + 9223372036854775808) % 18446744073709551616).toNat = ubN (ex s (p + 1)) 8 := by omega
          rw [h4, e1, e2]
          unfold kyV
          rw [if_neg (by decide), if_pos rfl, e3, beN_ubN _ _ (by rw [ex_size]; omega), ll_ex, List.cons_append]
          congr 1
          rw [show (ll s).drop (p + 9) = ((ll s).drop (p + 1)).drop 8 by rw [List.drop_drop], List.take_append_drop]
        · cases h
      · split at h
        · rename_i hb h4 h5
          cases hu : unesc ((ll s).drop (p + 1)) with
          | none => rw [hu] at h; cases h
          | some tr =>
            obtain ⟨t, r⟩ := tr
            rw [hu] at h
            cases h
            have hl := unesc_some _ _ _ hu
            have e1 : wK s p = 3 := by unfold wK; rw [h5]; rfl
            have e2 : wS s p = ⟨t.toArray⟩ := by unfold wS xt; rw [if_pos h5, hu]; rfl
            have hlen := congrArg List.length hl
            rw [List.length_drop, ll_len] at hlen
            simp at hlen
            have er : r = (ll s).drop (s.size - r.length) := by
              have hx : ll s = ((ll s).take (p + 1) ++ (esc t ++ [0, 1])) ++ r := by
                have h2 : esc t ++ 0 :: 1 :: r = (esc t ++ [0, 1]) ++ r := by simp
                rw [List.append_assoc, ← h2, ← hl, List.take_append_drop]
              have := drop_of_suffix hx
              rw [ll_len] at this
              exact this
            refine ⟨?_, by show p < s.size - r.length; omega, by show s.size - r.length ≤ s.size; omega⟩
            rw [h5, e1, e2]
            unfold kyV
            rw [if_neg (by decide), if_neg (by decide), if_pos rfl, hl]
            show (5 : UInt8) :: (esc t ++ 0 :: 1 :: r) = 5 :: (esc t ++ [0, 1]) ++ (ll s).drop (s.size - r.length)
            rw [← er]
            simp
        · cases h
theorem kn_text {s : ByteArray} {p : Nat} {t r : List UInt8} (hp : p < s.size) (h5 : bytN s p = 5) (h : (ll s).drop (p + 1) = esc t ++ 0 :: 1 :: r) : kn s p = some (p + (esc t).length + 3) ∧ wS s p = ⟨t.toArray⟩ ∧ t = loose ((ll s).drop (p + 1)) := by
  have hu : unesc ((ll s).drop (p + 1)) = some (t, r) := by rw [h]; exact unesc_of t r
  have hlen := congrArg List.length h
  rw [List.length_drop, ll_len] at hlen
  simp at hlen
  refine ⟨?_, ?_, by rw [h, loose_of]⟩
  · unfold kn
    rw [if_neg (by omega), if_neg (by omega), if_neg (by omega), if_pos h5, hu]
    show some (s.size - r.length) = _
    congr 1
    omega
  · unfold wS xt; rw [if_pos h5, hu]; rfl
theorem xor63 (x : Nat) (h : x < 18446744073709551616) : x ^^^ 9223372036854775808 = (x + 9223372036854775808) % 18446744073709551616 := by
  have e63 : (9223372036854775808 : Nat) = 2 ^ 63 := by decide
  have small : ∀ y, y < 2 ^ 63 → y ^^^ 2 ^ 63 = 2 ^ 63 + y := fun y hy => by
    have h1 := Nat.two_pow_add_eq_or_of_lt (i := 63) hy 1
    rw [Nat.mul_one] at h1
    rw [h1]
    apply Nat.eq_of_testBit_eq
    intro j
    rw [Nat.testBit_xor, Nat.testBit_or, Nat.testBit_two_pow]
    by_cases hj : 63 = j
    · subst hj
      rw [Nat.testBit_lt_two_pow hy]; simp
    · simp [hj]
  by_cases hx : x < 2 ^ 63
  · rw [e63, small x hx]; omega
  · obtain ⟨y, rfl⟩ : ∃ y, x = 2 ^ 63 + y := ⟨x - 2 ^ 63, by omega⟩
    have hy : y < 2 ^ 63 := by omega
    rw [e63, ← small y hy, Nat.xor_assoc, Nat.xor_self, Nat.xor_zero, small y hy]
    omega
/- the values of a key -/
def kP (s : ByteArray) : Nat → Option Nat
  | 0 => some 0
  | i + 1 => (kP s i).bind (kn s)
def kA (s : ByteArray) (i : Nat) : Nat := (kP s i).getD 0
def yK (s : ByteArray) (i : Nat) : Int := wK s (kA s i)
def yN (s : ByteArray) (i : Nat) : Int := wN s (kA s i)
def yS (s : ByteArray) (i : Nat) : ByteArray := wS s (kA s i)
theorem kP_succ {s : ByteArray} {i p : Nat} (h : kP s i = some p) : kP s (i + 1) = kn s p := by
  show (kP s i).bind (kn s) = _
  rw [h]; rfl
theorem kP_none {s : ByteArray} {i : Nat} (h : kP s i = none) : ∀ j, i ≤ j → kP s j = none := by
  intro j hj
  induction j with
  | zero => obtain rfl : i = 0 := by omega
            exact h
  | succ j ih =>
    by_cases e : i = j + 1
    · subst e; exact h
    · show (kP s j).bind (kn s) = none
      rw [ih (by omega)]; rfl
theorem kA_of {s : ByteArray} {i p : Nat} (h : kP s i = some p) : kA s i = p := by unfold kA; rw [h]; rfl
theorem kP_le {s : ByteArray} : ∀ {i p : Nat}, kP s i = some p → i ≤ p ∧ p ≤ s.size
  | 0, p, h => by cases h; omega
  | i + 1, p, h => by
    cases hq : kP s i with
    | none => rw [kP_none hq (i + 1) (by omega)] at h; cases h
    | some q =>
      have := kP_le hq
      rw [kP_succ hq] at h
      have := kn_bytes h
      omega
/- a key of n values -/
def isKey (s : ByteArray) (n : Nat) : Prop := kP s n = some s.size
theorem kn_end (s : ByteArray) : kn s s.size = none := by unfold kn; rw [if_pos (Nat.le_refl _)]
theorem isKey_one {s : ByteArray} {n m : Nat} (h : isKey s n) (h' : isKey s m) : n = m := by
  rcases Nat.lt_trichotomy n m with hl | hl | hl
  · have := kP_none (by rw [kP_succ h]; exact kn_end s) m hl
    rw [h'] at this; cases this
  · exact hl
  · have := kP_none (by rw [kP_succ h']; exact kn_end s) n hl
    rw [h] at this; cases this
theorem notKey {s : ByteArray} {i p : Nat} (h : kP s i = some p) (hp : p < s.size) (hn : kn s p = none) : ¬ ∃ n, isKey s n := by
  rintro ⟨n, hk⟩
  unfold isKey at hk
  by_cases hi : i < n
  · rw [kP_none (by rw [kP_succ h]; exact hn) n hi] at hk
    cases hk
  · have h1 : kP s (n + 1) = none := by rw [kP_succ hk]; exact kn_end s
    by_cases e : n = i
    · subst e
      rw [hk] at h
      injection h with h
      omega
    · rw [kP_none h1 i (by omega)] at h
      cases h
end Go.Proofs.Ythimnpobcfkghaa
