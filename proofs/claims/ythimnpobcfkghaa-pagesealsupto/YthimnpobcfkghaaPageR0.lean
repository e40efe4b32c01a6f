/- The document's way to write a page: strings one behind the other; it is the same page. -/
import Derived.Test.YthimnpobcfkghaaPage9
namespace Go.Proofs.Ythimnpobcfkghaa
open Go.RowKit

/- k bytes of a number, the highest first -/
def be : Nat → Nat → List UInt8
  | _, 0 => []
  | n, k + 1 => be (n / 256) k ++ [UInt8.ofNat n]
theorem be_len : ∀ n k, (be n k).length = k
  | _, 0 => rfl
  | n, k + 1 => by show (be (n / 256) k ++ [UInt8.ofNat n]).length = k + 1; simp [be_len]
theorem vw_app (a b : List UInt8) (i : Nat) : vw (a ++ b) i = if i < a.length then vw a i else vw b (i - a.length) := by
  unfold vw
  rw [List.getD_eq_getElem?_getD, List.getD_eq_getElem?_getD, List.getD_eq_getElem?_getD]
  split
  · rw [List.getElem?_append_left ‹_›]
  · rw [List.getElem?_append_right (by omega)]
theorem vw_one (x : UInt8) (i : Nat) : vw [x] i = if i = 0 then x.toNat else 0 := by
  cases i with
  | zero => rfl
  | succ i => rfl
theorem vw_rep (n i : Nat) : vw (List.replicate n 0) i = 0 := by
  unfold vw
  rw [List.getD_eq_getElem?_getD, List.getElem?_replicate]
  split <;> rfl
theorem vw_out {l : List UInt8} {i : Nat} (h : l.length ≤ i) : vw l i = 0 := by
  unfold vw
  rw [List.getD_eq_getElem?_getD, List.getElem?_eq_none h]
  rfl
theorem vw_be2 (n i : Nat) : vw (be n 2) i = if i = 0 then n / 256 % 256 else if i = 1 then n % 256 else 0 := by
  show vw (([] ++ [UInt8.ofNat (n / 256)]) ++ [UInt8.ofNat n]) i = _
  rw [List.nil_append, vw_app, vw_one, vw_one]
  simp only [List.length_singleton]
  by_cases h0 : i = 0
  · subst h0; simp
  · by_cases h1 : i = 1
    · subst h1; simp
    · rw [if_neg (by omega), if_neg (by omega), if_neg h0, if_neg h1]
theorem vw_be4 (n i : Nat) : vw (be n 4) i = if i = 0 then n / 65536 / 256 % 256 else if i = 1 then n / 65536 % 256 else if i = 2 then n / 256 % 256 else if i = 3 then n % 256 else 0 := by
  show vw ((be (n / 256 / 256) 2 ++ [UInt8.ofNat (n / 256)]) ++ [UInt8.ofNat n]) i = _
  rw [vw_app, vw_app, vw_be2, vw_one, vw_one]
  simp only [List.length_append, be_len, List.length_singleton]
  have e : n / 256 / 256 = n / 65536 := by omega
  rw [e]
  by_cases h0 : i = 0
  · subst h0; simp
  by_cases h1 : i = 1
  · subst h1; simp
  by_cases h2 : i = 2
  · subst h2; simp
  by_cases h3 : i = 3
  · subst h3; simp
  · rw [if_neg (by omega), if_neg (by omega), if_neg h0, if_neg h1, if_neg h2, if_neg h3]
def headL (K Lk n : Nat) (S : Nat → ByteArray) : Nat → List UInt8
  | 0 => [UInt8.ofNat K, 0] ++ be n 2 ++ be Lk 4
  | k + 1 => headL K Lk n S k ++ be (at' S (k + 1)) 2
def bodyL (S : Nat → ByteArray) : Nat → List UInt8
  | 0 => []
  | k + 1 => be (S k).size 2 ++ (S k).data.toList ++ bodyL S k
theorem headL_len (K Lk n : Nat) (S : Nat → ByteArray) : ∀ k, (headL K Lk n S k).length = 8 + 2 * k
  | 0 => by simp [headL, be_len]
  | k + 1 => by simp only [headL, List.length_append, be_len, headL_len K Lk n S k]; omega
theorem bodyL_len (S : Nat → ByteArray) : ∀ k, (bodyL S k).length = 2 * k + len S k
  | 0 => rfl
  | k + 1 => by
    have e : (S k).data.toList.length = (S k).size := rfl
    simp only [bodyL, List.length_append, be_len, bodyL_len S k, e, len]
    omega
def restL (K Lk n : Nat) (S : Nat → ByteArray) : List UInt8 := headL K Lk n S n ++ List.replicate (1012 - (4 * n + len S n)) 0 ++ bodyL S n
/- byte by byte -/
def vC (K Lk n : Nat) (S : Nat → ByteArray) (k i : Nat) : Nat := if i < 4 then 0 else if i < 12 + 2 * k then vw (headL K Lk n S k) (i - 4) else if i < at' S k then 0 else vw (bodyL S k) (i - at' S k)
theorem vw_headL_s (K Lk n : Nat) (S : Nat → ByteArray) (k j : Nat) : vw (headL K Lk n S (k + 1)) j = if j < 8 + 2 * k then vw (headL K Lk n S k) j else vw (be (at' S (k + 1)) 2) (j - (8 + 2 * k)) := by
  rw [headL, vw_app, headL_len]
theorem vw_data (s : ByteArray) (i : Nat) : vw s.data.toList i = byt s i := by
  have e : s = ⟨s.data.toList.toArray⟩ := by cases s; simp
  conv => rhs; rw [e]
  rw [byt_mk]
theorem vw_bodyL_s (S : Nat → ByteArray) (k j : Nat) : vw (bodyL S (k + 1)) j = if j < 2 then vw (be (S k).size 2) j else if j < 2 + (S k).size then byt (S k) (j - 2) else vw (bodyL S k) (j - (2 + (S k).size)) := by
  have e : (S k).data.toList.length = (S k).size := rfl
  rw [bodyL, vw_app, vw_app, be_len, vw_data]
  simp only [List.length_append, be_len, e]
  by_cases h1 : j < 2
  · rw [if_pos (by omega), if_pos h1, if_pos h1]
  · by_cases h2 : j < 2 + (S k).size
    · rw [if_pos h2, if_neg h1, if_neg h1, if_pos h2]
    · rw [if_neg h2, if_neg h1, if_neg h2]
theorem lay_C {K Lk n : Nat} {S : Nat → ByteArray} (hn : 4 * n + len S n ≤ 1012) (i : Nat) (hi : i < 1024) : ∀ k, k ≤ n → vw (lay S (head K Lk n) k) i = vC K Lk n S k i
  | 0, _ => by
    show vw (head K Lk n) i = _
    have hb : vw blank i = 0 := vw_rep 1024 i
    rw [vw_head, hb]
    unfold vC
    have ea : at' S 0 = 1024 := rfl
    rw [ea]
    by_cases h4 : i < 4
    · rw [if_neg (by omega), if_neg (by omega), if_neg (by omega), if_neg (by omega), if_neg (by omega), if_neg (by omega), if_neg (by omega), if_pos h4]
    · by_cases h12 : i < 12
      · rw [if_neg h4, if_pos (show i < 12 + 2 * 0 by omega)]
        show _ = vw ([UInt8.ofNat K, 0] ++ be n 2 ++ be Lk 4) (i - 4)
        rw [vw_app, vw_app, vw_be2, vw_be4]
        simp only [List.length_append, List.length_cons, List.length_nil, be_len]
        rcases (show i = 4 ∨ i = 5 ∨ i = 6 ∨ i = 7 ∨ i = 8 ∨ i = 9 ∨ i = 10 ∨ i = 11 by omega) with rfl | rfl | rfl | rfl | rfl | rfl | rfl | rfl <;> simp [vw]
      · rw [if_neg (by omega), if_neg (by omega), if_neg (by omega), if_neg (by omega), if_neg (by omega), if_neg (by omega), if_neg (by omega), if_neg h4, if_neg (by omega), if_pos hi]
  | k + 1, hk => by
    obtain ⟨a1, a2, a3⟩ := at_s hn hk
    rw [lay_step (head_len _ _ _) hn hk, lay_C hn i hi k (by omega)]
    unfold vC
    rw [vw_headL_s, vw_bodyL_s, vw_be2, vw_be2]
    by_cases r1 : i < 4
    · rw [if_neg (by omega), if_neg (by omega), if_neg (by omega), if_neg (by omega), if_neg (by omega), if_pos r1, if_pos r1]
    by_cases r2 : i < 12 + 2 * k
    · rw [if_neg (by omega), if_neg (by omega), if_neg (by omega), if_neg (by omega), if_neg (by omega), if_neg r1, if_pos r2, if_neg r1, if_pos (by omega), if_pos (by omega)]
    by_cases r3 : i = 12 + 2 * k
    · rw [if_neg (by omega), if_neg (by omega), if_neg (by omega), if_neg (by omega), if_pos r3, if_neg r1, if_pos (by omega), if_neg (by omega), if_pos (by omega)]
    by_cases r4 : i = 12 + 2 * k + 1
    · rw [if_neg (by omega), if_neg (by omega), if_neg (by omega), if_pos r4, if_neg r1, if_pos (by omega), if_neg (by omega), if_neg (by omega), if_pos (by omega)]
    by_cases r5 : i < at' S (k + 1)
    · rw [if_neg (by omega), if_neg (by omega), if_neg (by omega), if_neg r4, if_neg r3, if_neg r1, if_neg r2, if_pos (by omega), if_neg r1, if_neg (by omega), if_pos r5]
    by_cases r6 : i = at' S (k + 1)
    · rw [if_neg (by omega), if_neg (by omega), if_pos r6, if_neg r1, if_neg (by omega), if_neg r5, if_pos (by omega), if_pos (by omega)]
    by_cases r7 : i = at' S (k + 1) + 1
    · rw [if_neg (by omega), if_pos r7, if_neg r1, if_neg (by omega), if_neg r5, if_pos (by omega), if_neg (by omega), if_pos (by omega)]
    by_cases r8 : i < at' S k
    · rw [if_pos (by omega), if_neg r1, if_neg (by omega), if_neg r5, if_neg (by omega), if_pos (by omega), show i - (at' S (k + 1) + 2) = i - at' S (k + 1) - 2 by omega]
    · rw [if_neg (by omega), if_neg r7, if_neg r6, if_neg r4, if_neg r3, if_neg r1, if_neg r2, if_neg r8, if_neg r1, if_neg (by omega), if_neg r5, if_neg (by omega), if_neg (by omega)]
      congr 1
      omega
theorem list_ext {a b : List UInt8} (hl : a.length = b.length) (h : ∀ i, i < a.length → vw a i = vw b i) : a = b := by
  apply List.ext_getElem hl
  intro i h1 h2
  have e := h i h1
  unfold vw at e
  rw [List.getD_eq_getElem?_getD, List.getD_eq_getElem?_getD, List.getElem?_eq_getElem h1, List.getElem?_eq_getElem h2] at e
  exact UInt8.toNat_inj.1 e
theorem restL_len {K Lk n : Nat} {S : Nat → ByteArray} (hn : 4 * n + len S n ≤ 1012) : (restL K Lk n S).length = 1020 := by
  unfold restL
  simp only [List.length_append, headL_len, bodyL_len, List.length_replicate]
  omega
theorem vw_drop (l : List UInt8) (o i : Nat) : vw (l.drop o) i = vw l (o + i) := by
  unfold vw
  rw [List.getD_eq_getElem?_getD, List.getD_eq_getElem?_getD, List.getElem?_drop]
theorem restL_eq {K Lk n : Nat} {S : Nat → ByteArray} (hn : 4 * n + len S n ≤ 1012) : restL K Lk n S = (body K Lk n S).drop 4 := by
  refine list_ext (by rw [restL_len hn, List.length_drop, body_len hn]) fun i hi => ?_
  rw [restL_len hn] at hi
  rw [vw_drop]
  show _ = vw (lay S (head K Lk n) n) (4 + i)
  rw [lay_C hn (4 + i) (by omega) n (Nat.le_refl _)]
  unfold vC restL
  rw [vw_app, vw_app, vw_rep]
  simp only [List.length_append, headL_len, List.length_replicate]
  have ea : at' S n = 1024 - (2 * n + len S n) := rfl
  rw [if_neg (show ¬ 4 + i < 4 by omega)]
  by_cases h1 : i < 8 + 2 * n
  · rw [if_pos (by omega), if_pos h1, if_pos (by omega)]
    congr 1
    omega
  · by_cases h2 : 4 + i < at' S n
    · rw [if_pos (by omega), if_neg h1, if_neg (by omega), if_pos h2]
    · rw [if_neg (by omega), if_neg (by omega), if_neg h2]
      congr 1
      omega
theorem sealed_eq {K Lk n : Nat} {S : Nat → ByteArray} (hn : 4 * n + len S n ≤ 1012) : be (crc ⟨(restL K Lk n S).toArray⟩) 4 ++ restL K Lk n S = sealed K Lk n S := by
  rw [restL_eq hn]
  unfold sealed
  refine list_ext (by rw [List.length_append, be_len, List.length_drop, put4_len, body_len hn]) fun i hi => ?_
  rw [List.length_append, be_len, List.length_drop, body_len hn] at hi
  rw [vw_app, be_len, vw_drop, vw_put4 (by rw [body_len hn]; omega), vw_be4]
  by_cases h4 : i < 4
  · rw [if_pos h4]
    rcases (show i = 0 ∨ i = 1 ∨ i = 2 ∨ i = 3 by omega) with rfl | rfl | rfl | rfl <;> simp
  · rw [if_neg h4, if_neg (by omega), if_neg (by omega), if_neg (by omega), if_neg (by omega)]
    congr 1
    omega
end Go.Proofs.Ythimnpobcfkghaa
