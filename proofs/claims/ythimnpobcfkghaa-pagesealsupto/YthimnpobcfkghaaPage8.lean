/- What Seal has written is read again; a byte that is another one is told: in plain functions. -/
import Derived.Test.YthimnpobcfkghaaPage7
namespace Go.Proofs.Ythimnpobcfkghaa
open Go.RowKit

/- the i-th byte of a list -/
def vw (l : List UInt8) (i : Nat) : Nat := (l.getD i 0).toNat
theorem vw_lt (l : List UInt8) (i : Nat) : vw l i < 256 := UInt8.toNat_lt _
theorem get_mk (l : List UInt8) (i : Nat) : (⟨l.toArray⟩ : ByteArray)[i]! = l.getD i 0 := by
  by_cases h : i < l.length
  · rw [getElem!_pos _ i (show i < (⟨l.toArray⟩ : ByteArray).size from by simpa [ByteArray.size] using h)]
    rw [List.getD_eq_getElem?_getD, List.getElem?_eq_getElem h]
    rfl
  · rw [getElem!_neg _ i (show ¬ i < (⟨l.toArray⟩ : ByteArray).size from by simpa [ByteArray.size] using h)]
    rw [List.getD_eq_getElem?_getD, List.getElem?_eq_none (by omega)]
    rfl
theorem byt_mk (l : List UInt8) (i : Nat) : byt ⟨l.toArray⟩ i = vw l i := by
  unfold byt vw
  rw [get_mk]
theorem vw_set {l : List UInt8} {a : Nat} (ha : a < l.length) (x : UInt8) (i : Nat) : vw (l.set a x) i = if i = a then x.toNat else vw l i := by
  unfold vw
  rw [List.getD_eq_getElem?_getD, List.getD_eq_getElem?_getD]
  by_cases h : i = a
  · subst h; rw [if_pos rfl, List.getElem?_set_self ha]; rfl
  · rw [if_neg h, List.getElem?_set_ne (Ne.symm h)]
theorem vw_put2 {l : List UInt8} {a : Nat} (ha : a + 1 < l.length) (n i : Nat) : vw (put2 l a n) i = if i = a + 1 then n % 256 else if i = a then n / 256 % 256 else vw l i := by
  unfold put2
  rw [vw_set (by rw [List.length_set]; exact ha), vw_set (by omega)]
  simp
theorem vw_spl {l : List UInt8} {o : Nat} {t : ByteArray} (h : o + t.size ≤ l.length) (i : Nat) : vw (spl l o t) i = if o ≤ i ∧ i < o + t.size then byt t (i - o) else vw l i := by
  have ht : t.data.toList.length = t.size := rfl
  have e : t = ⟨t.data.toList.toArray⟩ := by cases t; simp
  unfold spl
  by_cases h1 : i < o
  · rw [if_neg (by omega)]
    unfold vw
    rw [List.getD_eq_getElem?_getD, List.getD_eq_getElem?_getD, List.append_assoc, List.getElem?_append_left (by simp; omega), List.getElem?_take_of_lt h1]
  · by_cases h2 : i < o + t.size
    · rw [if_pos (by omega)]
      have hb : byt t (i - o) = vw t.data.toList (i - o) := by
        rw [← byt_mk]
      rw [hb]
      unfold vw
      rw [List.getD_eq_getElem?_getD, List.getD_eq_getElem?_getD, List.getElem?_append_left (by simp; omega), List.getElem?_append_right (by simp; omega)]
      congr 3
      simp
      omega
    · rw [if_neg (by omega)]
      unfold vw
      rw [List.getD_eq_getElem?_getD, List.getD_eq_getElem?_getD, List.getElem?_append_right (by simp; omega), List.getElem?_drop]
      congr 3
      simp
      omega
theorem two_mk (l : List UInt8) (i : Nat) : two ⟨l.toArray⟩ i = vw l i * 256 + vw l (i + 1) := by unfold two; rw [byt_mk, byt_mk]

theorem lay_len {S : Nat → ByteArray} {l : List UInt8} {n : Nat} (hl : l.length = 1024) (hn : 4 * n + len S n ≤ 1012) : ∀ k, k ≤ n → (lay S l k).length = 1024
  | 0, _ => hl
  | k + 1, hk => by
    have ih := lay_len hl hn k (by omega)
    have h1 := len_mono S hk
    have h2 : len S (k + 1) = len S k + (S k).size := rfl
    have e : (put2 (put2 (lay S l k) (12 + 2 * k) (at' S (k + 1))) (at' S (k + 1)) (S k).size).length = 1024 := by rw [put2_len, put2_len, ih]
    show (spl _ _ _).length = 1024
    rw [spl_len _ _ _ (by rw [e]; unfold at'; omega), e]
/- one step of Seal, byte by byte -/
theorem lay_step {S : Nat → ByteArray} {l : List UInt8} {n : Nat} (hl : l.length = 1024) (hn : 4 * n + len S n ≤ 1012) {k : Nat} (hk : k + 1 ≤ n) (i : Nat) :
    vw (lay S l (k + 1)) i = if at' S (k + 1) + 2 ≤ i ∧ i < at' S (k + 1) + 2 + (S k).size then byt (S k) (i - (at' S (k + 1) + 2))
      else if i = at' S (k + 1) + 1 then (S k).size % 256 else if i = at' S (k + 1) then (S k).size / 256 % 256
      else if i = 12 + 2 * k + 1 then at' S (k + 1) % 256 else if i = 12 + 2 * k then at' S (k + 1) / 256 % 256 else vw (lay S l k) i := by
  have ih := lay_len (S := S) hl hn k (by omega)
  have h1 := len_mono S hk
  have h2 : len S (k + 1) = len S k + (S k).size := rfl
  show vw (spl _ _ _) i = _
  rw [vw_spl (by rw [put2_len, put2_len, ih]; unfold at'; omega), vw_put2 (by rw [put2_len, ih]; unfold at'; omega), vw_put2 (by rw [ih]; omega)]
theorem at_s {S : Nat → ByteArray} {n : Nat} (hn : 4 * n + len S n ≤ 1012) {k : Nat} (hk : k + 1 ≤ n) : at' S (k + 1) + 2 + (S k).size = at' S k ∧ 12 + 2 * n ≤ at' S (k + 1) ∧ at' S k ≤ 1024 := by
  have h1 := len_mono S hk
  have h2 : len S (k + 1) = len S k + (S k).size := rfl
  unfold at'
  omega
theorem lay_same {S : Nat → ByteArray} {l : List UInt8} {n : Nat} (hl : l.length = 1024) (hn : 4 * n + len S n ≤ 1012) {k : Nat} (hk : k + 1 ≤ n) {i : Nat} (h1 : i < 12 + 2 * k ∨ 12 + 2 * k + 2 ≤ i) (h2 : i < at' S (k + 1) ∨ at' S k ≤ i) : vw (lay S l (k + 1)) i = vw (lay S l k) i := by
  obtain ⟨a1, a2, a3⟩ := at_s hn hk
  rw [lay_step hl hn hk, if_neg (by omega), if_neg (by omega), if_neg (by omega), if_neg (by omega), if_neg (by omega)]
theorem at_mono {S : Nat → ByteArray} {j k : Nat} (hjk : j ≤ k) : at' S k ≤ at' S j := by
  have := len_mono S hjk
  unfold at'
  omega
/- what was laid stays -/
theorem lay_keep {S : Nat → ByteArray} {l : List UInt8} {n : Nat} (hl : l.length = 1024) (hn : 4 * n + len S n ≤ 1012) {j : Nat} {i : Nat} (h : i < 12 + 2 * j ∨ at' S j ≤ i) : ∀ {k : Nat}, j ≤ k → k ≤ n → vw (lay S l k) i = vw (lay S l j) i := by
  intro k hjk hk
  induction k with
  | zero => have : j = 0 := by omega
            subst this; rfl
  | succ k ih =>
    by_cases e : j = k + 1
    · subst e; rfl
    · obtain ⟨a1, a2, a3⟩ := at_s hn hk
      have a4 := at_mono (S := S) (show j ≤ k by omega)
      rw [lay_same hl hn hk (by omega) (by omega), ih (by omega) (by omega)]
/- the bytes of a page, one by one -/
section
variable {K Lk n : Nat} {S : Nat → ByteArray}
theorem body_len (hn : 4 * n + len S n ≤ 1012) : (body K Lk n S).length = 1024 := lay_len (head_len _ _ _) hn n (Nat.le_refl _)
theorem sealed_len (hn : 4 * n + len S n ≤ 1012) : (sealed K Lk n S).length = 1024 := by unfold sealed; rw [put4_len, body_len hn]
theorem vw_put4 {l : List UInt8} {a : Nat} (ha : a + 3 < l.length) (m i : Nat) : vw (put4 l a m) i = if i = a + 3 then m % 256 else if i = a + 2 then m / 256 % 256 else if i = a + 1 then m / 65536 % 256 else if i = a then m / 65536 / 256 % 256 else vw l i := by
  unfold put4
  rw [vw_put2 (by rw [put2_len]; omega), vw_put2 (by omega)]
theorem vw_head (i : Nat) : vw (head K Lk n) i = if i = 11 then Lk % 256 else if i = 10 then Lk / 256 % 256 else if i = 9 then Lk / 65536 % 256 else if i = 8 then Lk / 65536 / 256 % 256 else if i = 7 then n % 256 else if i = 6 then n / 256 % 256 else if i = 4 then K % 256 else vw blank i := by
  unfold head
  rw [vw_put4 (by rw [put2_len, List.length_set, blank_len]; omega), vw_put2 (by rw [List.length_set, blank_len]; omega), vw_set (by rw [blank_len]; omega)]
  simp
theorem vw_sealed (hn : 4 * n + len S n ≤ 1012) {i : Nat} (hi : 4 ≤ i) : vw (sealed K Lk n S) i = vw (body K Lk n S) i := by
  unfold sealed
  rw [vw_put4 (by rw [body_len hn]; omega), if_neg (by omega), if_neg (by omega), if_neg (by omega), if_neg (by omega)]
theorem vw_low (hn : 4 * n + len S n ≤ 1012) {i : Nat} (h4 : 4 ≤ i) (hi : i < 12) : vw (sealed K Lk n S) i = vw (head K Lk n) i := by
  rw [vw_sealed hn h4]
  exact lay_keep (head_len _ _ _) hn (j := 0) (by omega) (Nat.zero_le _) (Nat.le_refl _)
theorem sealed_kind (hn : 4 * n + len S n ≤ 1012) (hK : K ≤ 5) : byt ⟨(sealed K Lk n S).toArray⟩ 4 = K := by
  rw [byt_mk, vw_low hn (by omega) (by omega), vw_head]
  simp
  omega
theorem sealed_many (hn : 4 * n + len S n ≤ 1012) : two ⟨(sealed K Lk n S).toArray⟩ 6 = n := by
  rw [two_mk, vw_low hn (by omega) (by omega), vw_low hn (by omega) (by omega), vw_head, vw_head]
  simp
  omega
theorem sealed_link (hn : 4 * n + len S n ≤ 1012) (hL : Lk ≤ 2147483647) : four ⟨(sealed K Lk n S).toArray⟩ 8 = Lk := by
  unfold four
  rw [two_mk, two_mk, vw_low hn (by omega) (by omega), vw_low hn (by omega) (by omega), vw_low hn (by omega) (by omega), vw_low hn (by omega) (by omega), vw_head, vw_head, vw_head, vw_head]
  simp
  omega
theorem sealed_at (hn : 4 * n + len S n ≤ 1012) {k : Nat} (hk : k + 1 ≤ n) : two ⟨(sealed K Lk n S).toArray⟩ (12 + 2 * k) = at' S (k + 1) := by
  obtain ⟨a1, a2, a3⟩ := at_s hn hk
  rw [two_mk, vw_sealed hn (by omega), vw_sealed hn (by omega)]
  have e1 : vw (body K Lk n S) (12 + 2 * k) = at' S (k + 1) / 256 % 256 := by
    refine (lay_keep (head_len _ _ _) hn (j := k + 1) (by omega) hk (Nat.le_refl _)).trans ?_
    rw [lay_step (head_len _ _ _) hn hk, if_neg (by omega), if_neg (by omega), if_neg (by omega), if_neg (by omega), if_pos rfl]
  have e2 : vw (body K Lk n S) (12 + 2 * k + 1) = at' S (k + 1) % 256 := by
    refine (lay_keep (head_len _ _ _) hn (j := k + 1) (by omega) hk (Nat.le_refl _)).trans ?_
    rw [lay_step (head_len _ _ _) hn hk, if_neg (by omega), if_neg (by omega), if_neg (by omega), if_pos rfl]
  rw [e1, e2]
  omega
theorem sealed_size (hn : 4 * n + len S n ≤ 1012) {k : Nat} (hk : k + 1 ≤ n) : two ⟨(sealed K Lk n S).toArray⟩ (at' S (k + 1)) = (S k).size := by
  obtain ⟨a1, a2, a3⟩ := at_s hn hk
  rw [two_mk, vw_sealed hn (by omega), vw_sealed hn (by omega)]
  have e1 : vw (body K Lk n S) (at' S (k + 1)) = (S k).size / 256 % 256 := by
    refine (lay_keep (head_len _ _ _) hn (j := k + 1) (by omega) hk (Nat.le_refl _)).trans ?_
    rw [lay_step (head_len _ _ _) hn hk, if_neg (by omega), if_neg (by omega), if_pos rfl]
  have e2 : vw (body K Lk n S) (at' S (k + 1) + 1) = (S k).size % 256 := by
    refine (lay_keep (head_len _ _ _) hn (j := k + 1) (by omega) hk (Nat.le_refl _)).trans ?_
    rw [lay_step (head_len _ _ _) hn hk, if_neg (by omega), if_pos rfl]
  rw [e1, e2]
  omega
theorem sealed_cell (hn : 4 * n + len S n ≤ 1012) {k : Nat} (hk : k + 1 ≤ n) {i : Nat} (hi : i < (S k).size) : vw (sealed K Lk n S) (at' S (k + 1) + 2 + i) = byt (S k) i := by
  obtain ⟨a1, a2, a3⟩ := at_s hn hk
  rw [vw_sealed hn (by omega)]
  refine (lay_keep (head_len _ _ _) hn (j := k + 1) (by omega) hk (Nat.le_refl _)).trans ?_
  rw [lay_step (head_len _ _ _) hn hk, if_pos (by omega)]
  congr 1
  omega
end
end Go.Proofs.Ythimnpobcfkghaa
