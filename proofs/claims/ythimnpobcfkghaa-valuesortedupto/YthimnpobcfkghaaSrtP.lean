/- Keys are sorted as rows are; what was written is read again: in plain functions. -/
import Derived.Test.YthimnpobcfkghaaKeyF
namespace Go.Proofs.Ythimnpobcfkghaa
open Go.RowKit
/- how two rows of bytes stand to one another -/
def cmpB (x y : List UInt8) : Int := if x < y then -1 else if x = y then 0 else 1
def comb (o r : Int) : Int := if o = 0 then r else o
theorem cmpB_self (x : List UInt8) : cmpB x x = 0 := by
  unfold cmpB
  rw [if_neg (List.lt_irrefl x), if_pos rfl]
theorem cmpB_cons (a b : UInt8) (x y : List UInt8) : cmpB (a :: x) (b :: y) = if a < b then -1 else if b < a then 1 else cmpB x y := by
  unfold cmpB
  by_cases h1 : a < b
  · rw [if_pos h1, if_pos (List.cons_lt_cons_iff.2 (.inl h1))]
  · by_cases h2 : b < a
    · have hne : ¬ a = b := fun e => by rw [e] at h2; exact absurd h2 (by simp)
      rw [if_neg h1, if_pos h2, if_neg (fun h => by rcases List.cons_lt_cons_iff.1 h with h | h; exact h1 h; exact hne h.1), if_neg (fun e => hne (List.cons.inj e).1)]
    · have he : a = b := by
        apply UInt8.toNat_inj.1
        have : ¬ a.toNat < b.toNat := fun h => h1 (UInt8.lt_iff_toNat_lt.2 h)
        have : ¬ b.toNat < a.toNat := fun h => h2 (UInt8.lt_iff_toNat_lt.2 h)
        omega
      subst he
      rw [if_neg h1, if_neg h2]
      have e1 : (a :: x < a :: y) = (x < y) := by
        apply propext
        rw [List.cons_lt_cons_iff]
        constructor
        · rintro (h | h)
          · exact absurd h h1
          · exact h.2
        · intro h; exact .inr ⟨rfl, h⟩
      have e2 : (a :: x = a :: y) = (x = y) := by simp
      simp only [e1, e2]
theorem cmpB_eq (a : UInt8) (x y : List UInt8) : cmpB (a :: x) (a :: y) = cmpB x y := by
  have h : ¬ a < a := by simp
  rw [cmpB_cons, if_neg h, if_neg h]
theorem cmpB_nil_cons (b : UInt8) (y : List UInt8) : cmpB [] (b :: y) = -1 := by unfold cmpB; rw [if_pos (by simp)]
theorem cmpB_cons_nil (a : UInt8) (x : List UInt8) : cmpB (a :: x) [] = 1 := by unfold cmpB; rw [if_neg (by simp), if_neg (by simp)]
theorem u8lt (x y : Nat) : (UInt8.ofNat x < UInt8.ofNat y) ↔ x % 256 < y % 256 := by
  rw [UInt8.lt_iff_toNat_lt, UInt8.toNat_ofNat', UInt8.toNat_ofNat']
theorem cmpB_be : ∀ (k x y : Nat) (p q : List UInt8), x < 256 ^ k → y < 256 ^ k → cmpB (beN x k ++ p) (beN y k ++ q) = comb (cmpI x y) (cmpB p q)
  | 0, x, y, p, q, hx, hy => by
    have : x = 0 := by simp at hx; omega
    have : y = 0 := by simp at hy; omega
    subst x; subst y
    rfl
  | k + 1, x, y, p, q, hx, hy => by
    have e : ∀ (n : Nat) (r : List UInt8), beN n (k + 1) ++ r = beN (n / 256) k ++ (UInt8.ofNat n :: r) := fun n r => by
      show (beN (n / 256) k ++ [UInt8.ofNat n]) ++ r = _
      rw [List.append_assoc]; rfl
    rw [Nat.pow_succ] at hx hy
    have hx' : x / 256 < 256 ^ k := by rw [Nat.div_lt_iff_lt_mul (by decide)]; exact hx
    have hy' : y / 256 < 256 ^ k := by rw [Nat.div_lt_iff_lt_mul (by decide)]; exact hy
    rw [e, e, cmpB_be k _ _ _ _ hx' hy', cmpB_cons]
    simp only [u8lt]
    unfold comb cmpI
    by_cases h1 : x / 256 < y / 256
    · rw [if_pos (by omega : ((x / 256 : Nat) : Int) < ((y / 256 : Nat) : Int)), if_pos (by omega : (x : Int) < (y : Int))]; simp
    · by_cases h2 : y / 256 < x / 256
      · rw [if_neg (by omega : ¬ ((x / 256 : Nat) : Int) < ((y / 256 : Nat) : Int)), if_pos (by omega : ((y / 256 : Nat) : Int) < ((x / 256 : Nat) : Int)), if_neg (by omega : ¬ (x : Int) < (y : Int)), if_pos (by omega : (y : Int) < (x : Int))]; simp
      · rw [if_neg (by omega : ¬ ((x / 256 : Nat) : Int) < ((y / 256 : Nat) : Int)), if_neg (by omega : ¬ ((y / 256 : Nat) : Int) < ((x / 256 : Nat) : Int)), if_pos rfl]
        by_cases h3 : x % 256 < y % 256
        · rw [if_pos h3, if_pos (by omega : (x : Int) < (y : Int))]; simp
        · by_cases h4 : y % 256 < x % 256
          · rw [if_neg h3, if_pos h4, if_neg (by omega : ¬ (x : Int) < (y : Int)), if_pos (by omega : (y : Int) < (x : Int))]; simp
          · rw [if_neg h3, if_neg h4, if_neg (by omega : ¬ (x : Int) < (y : Int)), if_neg (by omega : ¬ (y : Int) < (x : Int)), if_pos rfl]
theorem u8pos {b : UInt8} (h : ¬ b = 0) : (0 : UInt8) < b := by
  rw [UInt8.lt_iff_toNat_lt]
  have : ¬ b.toNat = 0 := fun e => h (UInt8.toNat_inj.1 e)
  show 0 < b.toNat
  omega
theorem u8not0 (b : UInt8) : ¬ b < 0 := by
  rw [UInt8.lt_iff_toNat_lt]
  show ¬ b.toNat < 0
  omega
theorem esc_cons (b : UInt8) (r : List UInt8) (x : List UInt8) : esc (b :: r) ++ x = if b = 0 then 0 :: 255 :: (esc r ++ x) else b :: (esc r ++ x) := by
  show ((if b = 0 then [0, 255] else [b]) ++ esc r) ++ x = _
  split <;> rfl
theorem cmpB_esc : ∀ (s t x y : List UInt8), cmpB (esc s ++ 0 :: 1 :: x) (esc t ++ 0 :: 1 :: y) = comb (cmpB s t) (cmpB x y)
  | [], [], x, y => by
    show cmpB (0 :: 1 :: x) (0 :: 1 :: y) = _
    rw [cmpB_eq, cmpB_eq, cmpB_self]; rfl
  | [], b :: t, x, y => by
    rw [esc_cons, cmpB_nil_cons]
    show cmpB (0 :: 1 :: x) _ = _
    split
    · rw [cmpB_eq, cmpB_cons, if_pos (by decide)]; rfl
    · rename_i h
      rw [cmpB_cons, if_pos (u8pos h)]; rfl
  | a :: s, [], x, y => by
    rw [esc_cons, cmpB_cons_nil]
    show cmpB _ (0 :: 1 :: y) = _
    split
    · rw [cmpB_eq, cmpB_cons, if_neg (by decide), if_pos (by decide)]; rfl
    · rename_i h
      rw [cmpB_cons, if_neg (u8not0 _), if_pos (u8pos h)]; rfl
  | a :: s, b :: t, x, y => by
    have ih := cmpB_esc s t x y
    rw [esc_cons, esc_cons, cmpB_cons a b s t]
    by_cases ha : a = 0
    · rw [if_pos ha]
      by_cases hb : b = 0
      · rw [if_pos hb, cmpB_eq, cmpB_eq, ih, ha, hb, if_neg (u8not0 _), if_neg (u8not0 _)]
      · rw [if_neg hb, cmpB_cons, if_pos (u8pos hb), ha, if_pos (u8pos hb)]; rfl
    · rw [if_neg ha]
      by_cases hb : b = 0
      · rw [if_pos hb, cmpB_cons, hb, if_neg (u8not0 _), if_pos (u8pos ha)]
        rw [if_neg (u8not0 _), if_pos (u8pos ha)]; rfl
      · rw [if_neg hb, cmpB_cons, ih]
        by_cases h1 : a < b
        · rw [if_pos h1, if_pos h1]; rfl
        · by_cases h2 : b < a
          · rw [if_neg h1, if_pos h2, if_neg h1, if_pos h2]; rfl
          · rw [if_neg h1, if_neg h2, if_neg h1, if_neg h2]
/- the order of values, with texts as rows of bytes -/
def ordB (k n : Int) (s : ByteArray) (k' n' : Int) (s' : ByteArray) : Int := orI (cmpI (ck k) (ck k')) (cmpI (cn k n) (cn k' n')) (cmpB (ll (cs k s)) (ll (cs k' s')))
theorem cls (k : Int) : k = 1 ∨ k = 2 ∨ k = 3 ∨ (¬ k = 1 ∧ ¬ k = 2 ∧ ¬ k = 3) := by omega
theorem cl1 (n : Int) (s : ByteArray) : kyV 1 n s = [if n = 0 then 2 else 3] ∧ ck 1 = 1 ∧ cn 1 n = (if n = 0 then 0 else 1) ∧ cs 1 s = ⟨#[]⟩ := by
  refine ⟨rfl, rfl, ?_, rfl⟩
  show bn (n != 0) = _
  unfold bn
  by_cases h : n = 0 <;> simp [h]
theorem cl2 (n : Int) (s : ByteArray) : kyV 2 n s = 4 :: beN ((n + 9223372036854775808) % 18446744073709551616).toNat 8 ∧ ck 2 = 2 ∧ cn 2 n = n ∧ cs 2 s = ⟨#[]⟩ := ⟨rfl, rfl, rfl, rfl⟩
theorem cl3 (n : Int) (s : ByteArray) : kyV 3 n s = 5 :: (esc (ll s) ++ [0, 1]) ∧ ck 3 = 3 ∧ cn 3 n = 0 ∧ cs 3 s = s := ⟨rfl, rfl, rfl, rfl⟩
theorem cl0 {k : Int} (h : ¬ k = 1 ∧ ¬ k = 2 ∧ ¬ k = 3) (n : Int) (s : ByteArray) : kyV k n s = [1] ∧ ck k = 0 ∧ cn k n = 0 ∧ cs k s = ⟨#[]⟩ := by
  obtain ⟨h1, h2, h3⟩ := h
  unfold kyV ck cn cs
  rw [if_neg h1, if_neg h2, if_neg h3, if_neg h1, if_neg h2, if_neg h3, if_neg h1, if_neg h2, if_neg h3]
  exact ⟨rfl, rfl, rfl, rfl⟩
theorem orI_lt {x : Int} (h : ¬ x = 0) (y z : Int) : orI x y z = x := by unfold orI; rw [if_neg h]
theorem cmpI_lt {x y : Int} (h : x < y) : cmpI x y = -1 := by unfold cmpI; rw [if_pos h]
theorem cmpI_gt {x y : Int} (h : y < x) : cmpI x y = 1 := by unfold cmpI; rw [if_neg (by omega), if_pos h]
theorem cmpI_same (x : Int) : cmpI x x = 0 := by unfold cmpI; rw [if_neg (by omega), if_neg (by omega)]
/- first bytes that differ -/
theorem fb_lt {a b : UInt8} {p q : List UInt8} {o : Int} (h : a < b) (ho : o = -1) (r : Int) : cmpB (a :: p) (b :: q) = comb o r := by
  rw [cmpB_cons, if_pos h, ho]; rfl
theorem fb_gt {a b : UInt8} {p q : List UInt8} {o : Int} (h : b < a) (h' : ¬ a < b) (ho : o = 1) (r : Int) : cmpB (a :: p) (b :: q) = comb o r := by
  rw [cmpB_cons, if_neg h', if_pos h, ho]; rfl
theorem cmpB_ky {k n : Int} {s : ByteArray} {k' n' : Int} {s' : ByteArray} (x y : List UInt8) (hn : -9223372036854775808 ≤ n ∧ n ≤ 9223372036854775807) (hn' : -9223372036854775808 ≤ n' ∧ n' ≤ 9223372036854775807) : cmpB (kyV k n s ++ x) (kyV k' n' s' ++ y) = comb (ordB k n s k' n' s') (cmpB x y) := by
  unfold ordB
  rcases cls k with rfl | rfl | rfl | hk <;> rcases cls k' with rfl | rfl | rfl | hk'
  · obtain ⟨a1, a2, a3, a4⟩ := cl1 n s
    obtain ⟨b1, b2, b3, b4⟩ := cl1 n' s'
    rw [a1, a2, a3, a4, b1, b3, b4, cmpI_same, cmpB_self]
    by_cases h1 : n = 0 <;> by_cases h2 : n' = 0 <;> simp only [h1, h2, if_true, if_false, List.cons_append, List.nil_append]
    · rw [cmpB_eq]; rfl
    · exact fb_lt (by decide) rfl _
    · exact fb_gt (by decide) (by decide) rfl _
    · rw [cmpB_eq]; rfl
  · obtain ⟨a1, a2, -, -⟩ := cl1 n s
    obtain ⟨b1, b2, -, -⟩ := cl2 n' s'
    rw [a1, a2, b1, b2, orI_lt (by decide)]
    exact fb_lt (by split <;> decide) rfl _
  · obtain ⟨a1, a2, -, -⟩ := cl1 n s
    obtain ⟨b1, b2, -, -⟩ := cl3 n' s'
    rw [a1, a2, b1, b2, orI_lt (by decide)]
    exact fb_lt (by split <;> decide) rfl _
  · obtain ⟨a1, a2, -, -⟩ := cl1 n s
    obtain ⟨b1, b2, -, -⟩ := cl0 hk' n' s'
    rw [a1, a2, b1, b2, orI_lt (by decide)]
    exact fb_gt (by split <;> decide) (by split <;> decide) rfl _
  · obtain ⟨a1, a2, -, -⟩ := cl2 n s
    obtain ⟨b1, b2, -, -⟩ := cl1 n' s'
    rw [a1, a2, b1, b2, orI_lt (by decide)]
    exact fb_gt (by split <;> decide) (by split <;> decide) rfl _
  · obtain ⟨a1, a2, a3, a4⟩ := cl2 n s
    obtain ⟨b1, b2, b3, b4⟩ := cl2 n' s'
    rw [a1, a2, a3, a4, b1, b3, b4, cmpI_same, cmpB_self, List.cons_append, List.cons_append, cmpB_eq]
    have e : (256 : Nat) ^ 8 = 18446744073709551616 := by decide
    rw [cmpB_be 8 _ _ _ _ (by omega) (by omega)]
    have e1 : cmpI (((n + 9223372036854775808) % 18446744073709551616).toNat : Int) (((n' + 9223372036854775808) % 18446744073709551616).toNat : Int) = cmpI n n' := by
      unfold cmpI
      by_cases h1 : n < n'
      · rw [if_pos (by omega), if_pos h1]
      · by_cases h2 : n' < n
        · rw [if_neg (by omega), if_pos (by omega), if_neg h1, if_pos h2]
        · rw [if_neg (by omega), if_neg (by omega), if_neg h1, if_neg h2]
    rw [e1]
    unfold orI comb
    by_cases h : cmpI n n' = 0 <;> simp [h]
  · obtain ⟨a1, a2, -, -⟩ := cl2 n s
    obtain ⟨b1, b2, -, -⟩ := cl3 n' s'
    rw [a1, a2, b1, b2, orI_lt (by decide)]
    exact fb_lt (by decide) rfl _
  · obtain ⟨a1, a2, -, -⟩ := cl2 n s
    obtain ⟨b1, b2, -, -⟩ := cl0 hk' n' s'
    rw [a1, a2, b1, b2, orI_lt (by decide)]
    exact fb_gt (by decide) (by decide) rfl _
  · obtain ⟨a1, a2, -, -⟩ := cl3 n s
    obtain ⟨b1, b2, -, -⟩ := cl1 n' s'
    rw [a1, a2, b1, b2, orI_lt (by decide)]
    exact fb_gt (by split <;> decide) (by split <;> decide) rfl _
  · obtain ⟨a1, a2, -, -⟩ := cl3 n s
    obtain ⟨b1, b2, -, -⟩ := cl2 n' s'
    rw [a1, a2, b1, b2, orI_lt (by decide)]
    exact fb_gt (by decide) (by decide) rfl _
  · obtain ⟨a1, a2, a3, a4⟩ := cl3 n s
    obtain ⟨b1, b2, b3, b4⟩ := cl3 n' s'
    rw [a1, a2, a3, a4, b1, b3, b4, cmpI_same, cmpI_same, List.cons_append, List.cons_append, cmpB_eq, List.append_assoc, List.append_assoc]
    show cmpB (esc (ll s) ++ 0 :: 1 :: x) (esc (ll s') ++ 0 :: 1 :: y) = _
    rw [cmpB_esc]; rfl
  · obtain ⟨a1, a2, -, -⟩ := cl3 n s
    obtain ⟨b1, b2, -, -⟩ := cl0 hk' n' s'
    rw [a1, a2, b1, b2, orI_lt (by decide)]
    exact fb_gt (by decide) (by decide) rfl _
  · obtain ⟨a1, a2, -, -⟩ := cl0 hk n s
    obtain ⟨b1, b2, -, -⟩ := cl1 n' s'
    rw [a1, a2, b1, b2, orI_lt (by decide)]
    exact fb_lt (by split <;> decide) rfl _
  · obtain ⟨a1, a2, -, -⟩ := cl0 hk n s
    obtain ⟨b1, b2, -, -⟩ := cl2 n' s'
    rw [a1, a2, b1, b2, orI_lt (by decide)]
    exact fb_lt (by decide) rfl _
  · obtain ⟨a1, a2, -, -⟩ := cl0 hk n s
    obtain ⟨b1, b2, -, -⟩ := cl3 n' s'
    rw [a1, a2, b1, b2, orI_lt (by decide)]
    exact fb_lt (by decide) rfl _
  · obtain ⟨a1, a2, a3, a4⟩ := cl0 hk n s
    obtain ⟨b1, b2, b3, b4⟩ := cl0 hk' n' s'
    rw [a1, a2, a3, a4, b1, b2, b3, b4, cmpI_same, cmpB_self, List.cons_append, List.cons_append, cmpB_eq]; rfl
/- the values from one on -/
def kyT (K N : Nat → Int) (S : Nat → ByteArray) : Nat → Nat → List UInt8
  | _, 0 => []
  | i, d + 1 => kyV (K i) (N i) (S i) ++ kyT K N S (i + 1) d
theorem kyL_T (K N : Nat → Int) (S : Nat → ByteArray) : ∀ d i, kyL K N S (i + d) = kyL K N S i ++ kyT K N S i d
  | 0, i => by show _ = _ ++ []; rw [List.append_nil]; rfl
  | d + 1, i => by
    rw [show i + (d + 1) = (i + 1) + d by omega, kyL_T K N S d (i + 1)]
    show (kyL K N S i ++ kyV (K i) (N i) (S i)) ++ _ = _ ++ (kyV (K i) (N i) (S i) ++ _)
    rw [List.append_assoc]
theorem kyV_ne (k n : Int) (s : ByteArray) : ∃ a l, kyV k n s = a :: l := by
  rcases cls k with rfl | rfl | rfl | hk
  · exact ⟨_, _, (cl1 n s).1⟩
  · exact ⟨_, _, (cl2 n s).1⟩
  · exact ⟨_, _, (cl3 n s).1⟩
  · exact ⟨_, _, (cl0 hk n s).1⟩
theorem sorted {K N K' N' : Nat → Int} {S S' : Nat → ByteArray} : ∀ (d e i : Nat), (∀ j, j < i + d → -9223372036854775808 ≤ N j ∧ N j ≤ 9223372036854775807) → (∀ j, j < i + e → -9223372036854775808 ≤ N' j ∧ N' j ≤ 9223372036854775807) →
    fz (fun j => ordB (K j) (N j) (S j) (K' j) (N' j) (S' j)) i = 0 → cmpB (kyT K N S i d) (kyT K' N' S' i e) = ordL (fun j => ordB (K j) (N j) (S j) (K' j) (N' j) (S' j)) (i + d) (i + e)
  | 0, 0, i, _, _, hz => by
    rw [ordL_end (by rw [Nat.min_self]; exact hz), cmpI_same]
    exact cmpB_self _
  | 0, e + 1, i, _, _, hz => by
    obtain ⟨a, l, h⟩ := kyV_ne (K' i) (N' i) (S' i)
    rw [ordL_end (by rw [Nat.min_eq_left (by omega)]; exact hz), cmpI_lt (by omega)]
    show cmpB [] (kyV (K' i) (N' i) (S' i) ++ _) = _
    rw [h]; exact cmpB_nil_cons _ _
  | d + 1, 0, i, _, _, hz => by
    obtain ⟨a, l, h⟩ := kyV_ne (K i) (N i) (S i)
    rw [ordL_end (by rw [Nat.min_eq_right (by omega)]; exact hz), cmpI_gt (by omega)]
    show cmpB (kyV (K i) (N i) (S i) ++ _) [] = _
    rw [h]; exact cmpB_cons_nil _ _
  | d + 1, e + 1, i, h1, h2, hz => by
    show cmpB (kyV (K i) (N i) (S i) ++ kyT K N S (i + 1) d) (kyV (K' i) (N' i) (S' i) ++ kyT K' N' S' (i + 1) e) = _
    rw [cmpB_ky _ _ (h1 i (by omega)) (h2 i (by omega))]
    unfold comb
    by_cases h : ordB (K i) (N i) (S i) (K' i) (N' i) (S' i) = 0
    · rw [if_pos h, sorted d e (i + 1) (fun j hj => h1 j (by omega)) (fun j hj => h2 j (by omega)) (by rw [fz_z hz]; exact h)]
      rw [show i + 1 + d = i + (d + 1) by omega, show i + 1 + e = i + (e + 1) by omega]
    · rw [if_neg h, ordL_early (k := i) (by omega) hz h]
theorem sorted0 {K N K' N' : Nat → Int} {S S' : Nat → ByteArray} {n m : Nat} (h1 : ∀ j, j < n → -9223372036854775808 ≤ N j ∧ N j ≤ 9223372036854775807) (h2 : ∀ j, j < m → -9223372036854775808 ≤ N' j ∧ N' j ≤ 9223372036854775807) :
    cmpB (kyL K N S n) (kyL K' N' S' m) = ordL (fun j => ordB (K j) (N j) (S j) (K' j) (N' j) (S' j)) n m := by
  have a := kyL_T K N S n 0
  have b := kyL_T K' N' S' m 0
  rw [Nat.zero_add] at a b
  rw [a, b]
  have := sorted (S := S) (S' := S') (K := K) (K' := K') n m 0 (fun j hj => h1 j (by omega)) (fun j hj => h2 j (by omega)) rfl
  rw [Nat.zero_add, Nat.zero_add] at this
  exact this
/- what was written is read again -/
theorem beN_inj {k x y : Nat} (hx : x < 256 ^ k) (hy : y < 256 ^ k) (h : beN x k = beN y k) : x = y := by
  have h1 := cmpB_be k x y [] [] hx hy
  rw [h, cmpB_self] at h1
  have h2 : cmpI (x : Int) (y : Int) = 0 := by
    unfold comb at h1
    split at h1
    · assumption
    · exact h1.symm
  unfold cmpI at h2
  split at h2
  · cases h2
  · split at h2
    · cases h2
    · omega
theorem ubN_of {s : ByteArray} {a u : Nat} {r : List UInt8} (h : (ll s).drop a = beN u 8 ++ r) (hu : u < 18446744073709551616) : ubN (ex s a) 8 = u := by
  have hl : 8 ≤ (ex s a).size := by
    have := congrArg List.length h
    rw [List.length_append, beN_lenP, List.length_drop, ll_len] at this
    rw [ex_size]; omega
  have e : (256 : Nat) ^ 8 = 18446744073709551616 := by decide
  refine beN_inj (k := 8) (ubN_lt _ 8) (by omega) ?_
  rw [beN_ubN _ _ hl, ll_ex, h, List.take_left' (beN_lenP u 8)]
theorem head_of {s : ByteArray} {p : Nat} {a : UInt8} {r : List UInt8} (h : (ll s).drop p = a :: r) : p < s.size ∧ bytN s p = a.toNat ∧ (ll s).drop (p + 1) = r := by
  have hp : p < s.size := by
    rcases Nat.lt_or_ge p s.size with h' | h'
    · exact h'
    · rw [List.drop_of_length_le (by rw [ll_len]; exact h')] at h; cases h
  rw [dropE hp] at h
  injection h with h1 h2
  refine ⟨hp, ?_, h2⟩
  rw [← h1, UInt8.toNat_ofNat']
  have := bytN_lt s p
  omega
theorem kn_of {s : ByteArray} {p : Nat} {k n : Int} {t : ByteArray} {r : List UInt8} (h : (ll s).drop p = kyV k n t ++ r) (hn : -9223372036854775808 ≤ n ∧ n ≤ 9223372036854775807) :
    kn s p = some (p + (kyV k n t).length) ∧ wK s p = ck k ∧ wN s p = cn k n ∧ wS s p = cs k t := by
  rcases cls k with rfl | rfl | rfl | hk
  · obtain ⟨a1, a2, a3, a4⟩ := cl1 n t
    rw [a1] at h
    rw [a1, a2, a3, a4]
    obtain ⟨hp, hb, -⟩ := head_of h
    by_cases h0 : n = 0
    · rw [if_pos h0] at hb ⊢
      have hb' : bytN s p = 2 := hb
      refine ⟨?_, ?_, ?_, ?_⟩
      · unfold kn; rw [if_neg (by omega), if_pos (by omega)]; rfl
      · unfold wK; rw [hb']; rfl
      · unfold wN; rw [hb', if_pos h0]; rfl
      · unfold wS; rw [hb']; rfl
    · rw [if_neg h0] at hb ⊢
      have hb' : bytN s p = 3 := hb
      refine ⟨?_, ?_, ?_, ?_⟩
      · unfold kn; rw [if_neg (by omega), if_pos (by omega)]; rfl
      · unfold wK; rw [hb']; rfl
      · unfold wN; rw [hb', if_neg h0]; rfl
      · unfold wS; rw [hb']; rfl
  · obtain ⟨a1, a2, a3, a4⟩ := cl2 n t
    rw [a1, List.cons_append] at h
    rw [a1, a2, a3, a4]
    obtain ⟨hp, hb, hr⟩ := head_of h
    have hb' : bytN s p = 4 := hb
    have hu := ubN_of hr (by omega)
    have hlen := congrArg List.length hr
    rw [List.length_append, beN_lenP, List.length_drop, ll_len] at hlen
    refine ⟨?_, ?_, ?_, ?_⟩
    · unfold kn; rw [if_neg (by omega), if_neg (by omega), if_pos hb', if_pos (by omega), List.length_cons, beN_lenP]
    · unfold wK; rw [hb']; rfl
    · unfold wN; rw [if_neg (by omega), if_pos hb', hu]; omega
    · unfold wS; rw [hb']; rfl
  · obtain ⟨a1, a2, a3, a4⟩ := cl3 n t
    rw [a1, List.cons_append] at h
    rw [a1, a2, a3, a4]
    obtain ⟨hp, hb, hr⟩ := head_of h
    have hb' : bytN s p = 5 := hb
    have h3 : (ll s).drop (p + 1) = esc (ll t) ++ 0 :: 1 :: r := by rw [hr]; simp
    obtain ⟨h4, h5, -⟩ := kn_text hp hb' h3
    refine ⟨?_, ?_, ?_, ?_⟩
    · rw [h4]; congr 1; simp; omega
    · unfold wK; rw [hb']; rfl
    · unfold wN; rw [hb']; rfl
    · rw [h5]; rfl
  · obtain ⟨a1, a2, a3, a4⟩ := cl0 hk n t
    rw [a1] at h
    rw [a1, a2, a3, a4]
    obtain ⟨hp, hb, -⟩ := head_of h
    have hb' : bytN s p = 1 := hb
    refine ⟨?_, ?_, ?_, ?_⟩
    · unfold kn; rw [if_neg (by omega), if_pos (by omega)]; rfl
    · unfold wK; rw [hb']; rfl
    · unfold wN; rw [hb']; rfl
    · unfold wS; rw [hb']; rfl
theorem kyL_split (K N : Nat → Int) (S : Nat → ByteArray) {i n : Nat} (h : i < n) : ∃ r, kyL K N S n = kyL K N S i ++ (kyV (K i) (N i) (S i) ++ r) := by
  obtain ⟨d, rfl⟩ : ∃ d, n = i + (d + 1) := ⟨n - i - 1, by omega⟩
  exact ⟨_, kyL_T K N S (d + 1) i⟩
theorem key_read {K N : Nat → Int} {S : Nat → ByteArray} {n : Nat} (hN : ∀ j, j < n → -9223372036854775808 ≤ N j ∧ N j ≤ 9223372036854775807) : ∀ i, i ≤ n → kP ⟨(kyL K N S n).toArray⟩ i = some (kyL K N S i).length
  | 0, _ => rfl
  | i + 1, h => by
    have ih := key_read (K := K) (S := S) hN i (by omega)
    rw [kP_succ ih]
    obtain ⟨r, hr⟩ := kyL_split K N S (show i < n by omega)
    have hd : (ll ⟨(kyL K N S n).toArray⟩).drop (kyL K N S i).length = kyV (K i) (N i) (S i) ++ r := by
      show (kyL K N S n).drop _ = _
      rw [hr, List.drop_left]
    rw [(kn_of hd (hN i (by omega))).1]
    show _ = some ((kyL K N S i ++ kyV (K i) (N i) (S i)).length)
    rw [List.length_append]
theorem key_vals {K N : Nat → Int} {S : Nat → ByteArray} {n i : Nat} (hN : ∀ j, j < n → -9223372036854775808 ≤ N j ∧ N j ≤ 9223372036854775807) (hi : i < n) :
    yK ⟨(kyL K N S n).toArray⟩ i = ck (K i) ∧ yN ⟨(kyL K N S n).toArray⟩ i = cn (K i) (N i) ∧ yS ⟨(kyL K N S n).toArray⟩ i = cs (K i) (S i) := by
  have ea := kA_of (key_read (K := K) (S := S) hN i (by omega))
  obtain ⟨r, hr⟩ := kyL_split K N S hi
  have hd : (ll ⟨(kyL K N S n).toArray⟩).drop (kyL K N S i).length = kyV (K i) (N i) (S i) ++ r := by
    show (kyL K N S n).drop _ = _
    rw [hr, List.drop_left]
  obtain ⟨-, h2, h3, h4⟩ := kn_of hd (hN i hi)
  unfold yK yN yS
  rw [ea]
  exact ⟨h2, h3, h4⟩
theorem key_is {K N : Nat → Int} {S : Nat → ByteArray} {n : Nat} (hN : ∀ j, j < n → -9223372036854775808 ≤ N j ∧ N j ≤ 9223372036854775807) : isKey ⟨(kyL K N S n).toArray⟩ n := by
  unfold isKey
  rw [key_read hN n (Nat.le_refl _)]
  congr 1
/- likewise for rows -/
theorem pl1 (n : Int) (s : ByteArray) : pkV 1 n s = [1, UInt8.ofNat (if n = 0 then 0 else 1)] := rfl
theorem pl0 {k : Int} (h : ¬ k = 1 ∧ ¬ k = 2 ∧ ¬ k = 3) (n : Int) (s : ByteArray) : pkV k n s = [0] := by
  obtain ⟨h1, h2, h3⟩ := h
  unfold pkV
  rw [if_neg h1, if_neg h2, if_neg h3]
theorem sxt_ofV {s : ByteArray} {p : Nat} {k n : Int} {t : ByteArray} {r : List UInt8} (h : (ll s).drop p = pkV k n t ++ r) (hn : -9223372036854775808 ≤ n ∧ n ≤ 9223372036854775807) (hf : (cs k t).size ≤ 1000) :
    sxt s p = some (p + (pkV k n t).length) ∧ vK s p = ck k ∧ vN s p = cn k n ∧ vS s p = cs k t := by
  rcases cls k with rfl | rfl | rfl | hk
  · obtain ⟨-, a2, a3, a4⟩ := cl1 n t
    rw [pl1] at h
    rw [pl1, a2, a3, a4]
    obtain ⟨hp, hb, hr⟩ := head_of h
    obtain ⟨hp1, hb1, -⟩ := head_of hr
    have hb' : bytN s p = 1 := hb
    have hb1' : bytN s (p + 1) = if n = 0 then 0 else 1 := by
      rw [hb1, UInt8.toNat_ofNat']
      split <;> rfl
    have hle : bytN s (p + 1) ≤ 1 := by rw [hb1']; split <;> omega
    refine ⟨?_, ?_, ?_, ?_⟩
    · unfold sxt okV nxt
      rw [if_neg (show ¬ s.size ≤ p by omega)]
      simp [hb', hle]
      omega
    · unfold vK; rw [hb']; rfl
    · unfold vN; rw [if_pos hb', hb1']
      by_cases h0 : n = 0
      · rw [if_pos h0, if_pos h0]; rfl
      · rw [if_neg h0, if_neg h0]; rfl
    · unfold vS; rw [hb']; rfl
  · obtain ⟨-, a2, a3, a4⟩ := cl2 n t
    have e1 : pkV 2 n t = 2 :: beN (n % 18446744073709551616).toNat 8 := rfl
    rw [e1, List.cons_append] at h
    rw [e1, a2, a3, a4]
    obtain ⟨hp, hb, hr⟩ := head_of h
    have hb' : bytN s p = 2 := hb
    have hu := ubN_of hr (by omega)
    have hlen := congrArg List.length hr
    rw [List.length_append, beN_lenP, List.length_drop, ll_len] at hlen
    refine ⟨?_, ?_, ?_, ?_⟩
    · unfold sxt okV nxt
      rw [if_neg (show ¬ s.size ≤ p by omega), List.length_cons, beN_lenP]
      simp [hb']
      omega
    · unfold vK; rw [hb']; rfl
    · unfold vN; rw [if_neg (by omega), if_pos hb', hu]
      unfold sg
      split <;> omega
    · unfold vS; rw [hb']; rfl
  · obtain ⟨-, a2, a3, a4⟩ := cl3 n t
    have e1 : pkV 3 n t = 3 :: UInt8.ofNat (t.size / 256) :: UInt8.ofNat t.size :: ll t := rfl
    rw [e1] at h
    have hf' : t.size ≤ 1000 := hf
    rw [e1, a2, a3, a4]
    obtain ⟨hp, hb, hr⟩ := head_of h
    obtain ⟨hp1, hb1, hr1⟩ := head_of hr
    obtain ⟨hp2, hb2, hr2⟩ := head_of hr1
    have hr2 : (ll s).drop (p + 1 + 1 + 1) = ll t ++ r := hr2
    have hb' : bytN s p = 3 := hb
    rw [UInt8.toNat_ofNat'] at hb1 hb2
    have hz : szT s p = t.size := by
      unfold szT
      rw [hb1, show p + 2 = p + 1 + 1 from rfl, hb2]
      omega
    have hlen := congrArg List.length hr2
    rw [List.length_append, ll_len, List.length_drop, ll_len] at hlen
    refine ⟨?_, ?_, ?_, ?_⟩
    · unfold sxt okV nxt
      rw [if_neg (show ¬ s.size ≤ p by omega), hz]
      simp [hb', hf', ll_len]
      omega
    · unfold vK; rw [hb']; rfl
    · unfold vN; rw [if_neg (by omega), if_neg (by omega)]
    · unfold vS; rw [if_pos hb', hz]
      apply ll_inj
      rw [ll_extract, List.drop_take, show p + 3 + t.size - (p + 3) = t.size by omega, show p + 3 = p + 1 + 1 + 1 from rfl, hr2, List.take_left' (ll_len t)]
  · obtain ⟨-, a2, a3, a4⟩ := cl0 hk n t
    rw [pl0 hk] at h
    rw [pl0 hk, a2, a3, a4]
    obtain ⟨hp, hb, -⟩ := head_of h
    have hb' : bytN s p = 0 := hb
    refine ⟨?_, ?_, ?_, ?_⟩
    · unfold sxt okV nxt
      rw [if_neg (show ¬ s.size ≤ p by omega)]
      simp [hb']
    · unfold vK; rw [hb']; rfl
    · unfold vN; rw [hb']; rfl
    · unfold vS; rw [hb']; rfl
theorem pkL_split (K N : Nat → Int) (S : Nat → ByteArray) {i n : Nat} (h : i < n) : ∃ r, pkL K N S n = pkL K N S i ++ (pkV (K i) (N i) (S i) ++ r) := by
  obtain ⟨z, hz⟩ := pkL_pre K N S (i + 1) n h
  refine ⟨z, ?_⟩
  rw [hz]
  show (pkL K N S i ++ pkV (K i) (N i) (S i)) ++ z = _
  rw [List.append_assoc]
theorem row_drop {K N : Nat → Int} {S : Nat → ByteArray} {n i : Nat} {z : List UInt8} (h : pkL K N S n = pkL K N S i ++ z) : (ll ⟨(UInt8.ofNat n :: pkL K N S n).toArray⟩).drop (1 + (pkL K N S i).length) = z := by
  show (UInt8.ofNat n :: pkL K N S n).drop _ = _
  rw [show 1 + (pkL K N S i).length = (pkL K N S i).length + 1 by omega, List.drop_succ_cons, h, List.drop_left]
theorem row_read {K N : Nat → Int} {S : Nat → ByteArray} {n : Nat} (hN : ∀ j, j < n → -9223372036854775808 ≤ N j ∧ N j ≤ 9223372036854775807) (hf : fit K S n) : ∀ i, i ≤ n → pS ⟨(UInt8.ofNat n :: pkL K N S n).toArray⟩ i = some (1 + (pkL K N S i).length)
  | 0, _ => rfl
  | i + 1, h => by
    have ih := row_read hN hf i (by omega)
    rw [pS_succ ih]
    obtain ⟨r, hr⟩ := pkL_split K N S (show i < n by omega)
    rw [(sxt_ofV (row_drop hr) (hN i (by omega)) (hf i (by omega))).1]
    show _ = some (1 + (pkL K N S i ++ pkV (K i) (N i) (S i)).length)
    rw [List.length_append, Nat.add_assoc]
theorem row_vals {K N : Nat → Int} {S : Nat → ByteArray} {n i : Nat} (hN : ∀ j, j < n → -9223372036854775808 ≤ N j ∧ N j ≤ 9223372036854775807) (hf : fit K S n) (hi : i < n) :
    uK ⟨(UInt8.ofNat n :: pkL K N S n).toArray⟩ i = ck (K i) ∧ uN ⟨(UInt8.ofNat n :: pkL K N S n).toArray⟩ i = cn (K i) (N i) ∧ uS ⟨(UInt8.ofNat n :: pkL K N S n).toArray⟩ i = cs (K i) (S i) := by
  have ea := aR_of (pS_pR (row_read hN hf i (by omega))).1
  obtain ⟨r, hr⟩ := pkL_split K N S hi
  obtain ⟨-, h2, h3, h4⟩ := sxt_ofV (row_drop hr) (hN i hi) (hf i hi)
  unfold uK uN uS
  rw [ea]
  exact ⟨h2, h3, h4⟩
theorem row_first (l : List UInt8) {n : Nat} (hn : n ≤ 64) : bytN ⟨(UInt8.ofNat n :: l).toArray⟩ 0 = n := by
  have h : (ll ⟨(UInt8.ofNat n :: l).toArray⟩).drop 0 = UInt8.ofNat n :: l := rfl
  obtain ⟨-, h2, -⟩ := head_of h
  rw [h2, UInt8.toNat_ofNat']
  omega
theorem row_acc {K N : Nat → Int} {S : Nat → ByteArray} {n : Nat} (hN : ∀ j, j < n → -9223372036854775808 ≤ N j ∧ N j ≤ 9223372036854775807) (hf : fit K S n) (hn : n ≤ 64) : acc ⟨(UInt8.ofNat n :: pkL K N S n).toArray⟩ := by
  have h0 := row_first (pkL K N S n) hn
  have hsz : (⟨(UInt8.ofNat n :: pkL K N S n).toArray⟩ : ByteArray).size = 1 + (pkL K N S n).length := by
    show (UInt8.ofNat n :: pkL K N S n).toArray.size = _
    simp; omega
  refine ⟨by omega, by omega, ?_⟩
  rw [h0, row_read hN hf n (Nat.le_refl _), hsz]
theorem cmpS_B (x y : ByteArray) : cmpS x y = cmpB (ll x) (ll y) := by
  unfold cmpS cmpB
  rw [ByteArray.toList_eq, ByteArray.toList_eq, bl_lt]
  show (if decide (ll x < ll y) = true then -1 else if (ll x == ll y) = true then 0 else 1) = _
  simp only [decide_eq_true_eq, beq_iff_eq]
theorem ordV_B (k n : Int) (s : ByteArray) (k' n' : Int) (s' : ByteArray) : ordV k n s k' n' s' = ordB k n s k' n' s' := by
  unfold ordV ordB
  rw [cmpS_B]
theorem sign_B (x y : ByteArray) : signI (Op.bytesLess x.toList y.toList) (!Op.bytesLess x.toList y.toList && !(x.toList == y.toList)) = cmpB (ll x) (ll y) := by
  rw [← cmpS_B]
  unfold signI cmpS
  cases Op.bytesLess x.toList y.toList
  · cases (x.toList == y.toList) <;> rfl
  · rfl
end Go.Proofs.Ythimnpobcfkghaa
