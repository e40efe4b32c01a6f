/- A row as bytes, in plain functions: what is a value at a byte, where the next one is; what is read strictly is what packs back. -/
import Derived.Test.YthimnpobcfkghaaUnp
namespace Go.Proofs.Ythimnpobcfkghaa
open Go.RowKit
/- a text from a byte on -/
def ex (s : ByteArray) (a : Nat) : ByteArray := s.extract a s.size
theorem ex_size (s : ByteArray) (a : Nat) : (ex s a).size = s.size - a := by unfold ex; rw [ByteArray.size_extract]; omega
def ll (s : ByteArray) : List UInt8 := s.data.toList
theorem ll_len (s : ByteArray) : (ll s).length = s.size := rfl
theorem ll_inj {s t : ByteArray} (h : ll s = ll t) : s = t := by
  cases s; cases t
  congr 1
  exact Array.ext' h
theorem ll_extract (s : ByteArray) (a b : Nat) : ll (s.extract a b) = ((ll s).take b).drop a := by
  unfold ll
  rw [ByteArray.data_extract, Array.toList_extract, List.extract_eq_take_drop, List.drop_take]
theorem ll_ex (s : ByteArray) (a : Nat) : ll (ex s a) = (ll s).drop a := by
  unfold ex
  rw [ll_extract, List.take_of_length_le (by rw [ll_len]; omega)]
theorem ex_ex (s : ByteArray) (a b : Nat) : ex (ex s a) b = ex s (a + b) := ll_inj (by rw [ll_ex, ll_ex, ll_ex, List.drop_drop])
theorem ex_0 (s : ByteArray) : ex s 0 = s := ll_inj (by rw [ll_ex]; rfl)
theorem bytN_ll (s : ByteArray) (i : Nat) : bytN s i = ((ll s).getD i 0).toNat := by
  unfold bytN
  by_cases h : i < s.size
  · rw [getElem!_pos s i h, List.getD_eq_getElem?_getD, List.getElem?_eq_getElem (show i < (ll s).length from h)]
    rfl
  · rw [getElem!_neg s i h, List.getD_eq_getElem?_getD, List.getElem?_eq_none (show (ll s).length ≤ i from Nat.le_of_not_lt h)]
    rfl
theorem bytN_ex (s : ByteArray) (a i : Nat) : bytN (ex s a) i = bytN s (a + i) := by
  rw [bytN_ll, bytN_ll, ll_ex, List.getD_eq_getElem?_getD, List.getD_eq_getElem?_getD, List.getElem?_drop]
theorem ex_extract (s : ByteArray) (a b c : Nat) : (ex s a).extract b c = s.extract (a + b) (a + c) := ll_inj (by
  rw [ll_extract, ll_extract, ll_ex, List.take_drop, List.drop_drop])
theorem ubN_ext {s t : ByteArray} : ∀ k, (∀ i, i < k → bytN s i = bytN t i) → ubN s k = ubN t k
  | 0, _ => rfl
  | k + 1, h => by
    show 256 * ubN s k + bytN s k = 256 * ubN t k + bytN t k
    rw [ubN_ext k (fun i hi => h i (by omega)), h k (by omega)]
theorem bytN_extract (s : ByteArray) {a b i : Nat} (h : a + i < b) : bytN (s.extract a b) i = bytN s (a + i) := by
  rw [bytN_ll, bytN_ll, ll_extract, List.getD_eq_getElem?_getD, List.getD_eq_getElem?_getD, List.getElem?_drop, List.getElem?_take_of_lt h]
/- a value at a byte: its kind, its number, its text; where the next one is -/
def szT (s : ByteArray) (a : Nat) : Nat := 256 * bytN s (a + 1) + bytN s (a + 2)
def sg (u : Nat) : Int := if u < 9223372036854775808 then (u : Int) else (u : Int) - 18446744073709551616
def vK (s : ByteArray) (a : Nat) : Int := bytN s a
def vN (s : ByteArray) (a : Nat) : Int := if bytN s a = 1 then bn (bytN s (a + 1) == 1) else if bytN s a = 2 then sg (ubN (ex s (a + 1)) 8) else 0
def vS (s : ByteArray) (a : Nat) : ByteArray := if bytN s a = 3 then s.extract (a + 3) (a + 3 + szT s a) else ⟨#[]⟩
def nxt (s : ByteArray) (a : Nat) : Option Nat :=
  if s.size ≤ a then none else if bytN s a = 0 then some (a + 1) else if bytN s a = 1 then (if a + 2 ≤ s.size then some (a + 2) else none)
  else if bytN s a = 2 then (if a + 9 ≤ s.size then some (a + 9) else none)
  else if bytN s a = 3 then (if a + 3 ≤ s.size ∧ a + 3 + szT s a ≤ s.size then some (a + 3 + szT s a) else none) else none
def okV (s : ByteArray) (a : Nat) : Bool := (bytN s a != 1 || decide (bytN s (a + 1) ≤ 1)) && (bytN s a != 3 || decide (szT s a ≤ 1000))
def sxt (s : ByteArray) (a : Nat) : Option Nat := if okV s a then nxt s a else none
def pos (f : Nat → Option Nat) : Nat → Option Nat
  | 0 => some 1
  | i + 1 => (pos f i).bind f
theorem beN_ubN (s : ByteArray) : ∀ k, k ≤ s.size → beN (ubN s k) k = (ll s).take k
  | 0, _ => rfl
  | k + 1, h => by
    have hb := bytN_lt s k
    have e1 : (256 * ubN s k + bytN s k) / 256 = ubN s k := by omega
    show beN ((256 * ubN s k + bytN s k) / 256) k ++ [UInt8.ofNat (256 * ubN s k + bytN s k)] = _
    rw [e1, beN_ubN s k (by omega), List.take_succ_eq_append_getElem (show k < (ll s).length from h)]
    congr 2
    have hl : k < (ll s).length := by rw [ll_len]; omega
    have e2 : ((ll s)[k]'hl).toNat = bytN s k := bytN_get (s := s) (i := k) h
    apply UInt8.toNat_inj.1
    refine Eq.trans ?_ e2.symm
    rw [UInt8.toNat_ofNat']
    omega
theorem drop_cons {l : List UInt8} {a : Nat} (h : a < l.length) : l.drop a = l[a] :: l.drop (a + 1) := List.drop_eq_getElem_cons h
theorem u8_of {s : ByteArray} {a : Nat} (h : a < (ll s).length) : (ll s)[a]'h = UInt8.ofNat (bytN s a) := by
  have e2 : ((ll s)[a]'h).toNat = bytN s a := bytN_get (s := s) (i := a) h
  apply UInt8.toNat_inj.1
  rw [UInt8.toNat_ofNat', e2]
  have := bytN_lt s a
  omega
theorem dropE {s : ByteArray} {a : Nat} (h : a < s.size) : (ll s).drop a = UInt8.ofNat (bytN s a) :: (ll s).drop (a + 1) := by
  have h' : a < (ll s).length := by rw [ll_len]; exact h
  rw [drop_cons h', u8_of h']
theorem sg_mod {u : Nat} (h : u < 18446744073709551616) : (sg u % 18446744073709551616).toNat = u := by
  unfold sg
  split <;> omega
theorem sg_range {u : Nat} (h : u < 18446744073709551616) : -9223372036854775808 ≤ sg u ∧ sg u ≤ 9223372036854775807 := by
  unfold sg
  split <;> omega
theorem ubN_8 (s : ByteArray) : ubN s 8 < 18446744073709551616 := by
  have := ubN_lt s 8
  have e : (256 : Nat) ^ 8 = 18446744073709551616 := by decide
  omega
theorem vN_range (s : ByteArray) (a : Nat) : -9223372036854775808 ≤ vN s a ∧ vN s a ≤ 9223372036854775807 := by
  unfold vN
  split
  · unfold bn; split <;> omega
  · split
    · exact sg_range (ubN_8 _)
    · omega
theorem vS_size {s : ByteArray} {a : Nat} (h : a + 3 + szT s a ≤ s.size) (h3 : bytN s a = 3) : (vS s a).size = szT s a := by
  unfold vS
  rw [if_pos h3, ByteArray.size_extract]
  omega
theorem sxt_bytes {s : ByteArray} {a p : Nat} (h : sxt s a = some p) : (ll s).drop a = pkV (vK s a) (vN s a) (vS s a) ++ (ll s).drop p ∧ (cs (vK s a) (vS s a)).size ≤ 1000 ∧ nxt s a = some p := by
  unfold sxt at h
  split at h
  · rename_i hok
    refine ⟨?_, ?_, h⟩
    · unfold okV at hok
      unfold nxt at h
      split at h
      · cases h
      · rename_i hsz
        have hlt : a < s.size := by omega
        rw [dropE hlt]
        split at h
        · rename_i k0
          cases h
          have e : vK s a = 0 := by unfold vK; omega
          rw [e, k0]; rfl
        · split at h
          · rename_i k1
            split at h
            · rename_i h2
              cases h
              have e : vK s a = 1 := by unfold vK; omega
              have hb : bytN s (a + 1) ≤ 1 := by simpa [k1] using hok
              rw [e, k1, dropE (show a + 1 < s.size by omega)]
              unfold vN pkV
              rw [if_pos rfl, if_pos k1]
              have hc : bytN s (a + 1) = 0 ∨ bytN s (a + 1) = 1 := by omega
              rcases hc with hc | hc <;> rw [hc] <;> rfl
            · cases h
          · split at h
            · rename_i k1 k2
              split at h
              · rename_i h2
                cases h
                have e : vK s a = 2 := by unfold vK; omega
                have e2 : vN s a = sg (ubN (ex s (a + 1)) 8) := by unfold vN; rw [if_neg k1, if_pos k2]
                rw [e, k2, e2]
                unfold pkV
                rw [if_neg (by decide), if_pos rfl, sg_mod (ubN_8 _), beN_ubN _ _ (by rw [ex_size]; omega), ll_ex]
                show _ = 2 :: _ ++ _
                rw [List.cons_append]
                congr 1
                rw [show (ll s).drop (a + 9) = ((ll s).drop (a + 1)).drop 8 by rw [List.drop_drop], List.take_append_drop]
              · cases h
            · split at h
              · rename_i k1 k2 k3
                split at h
                · rename_i h2
                  obtain ⟨h2, h4⟩ := h2
                  cases h
                  have e : vK s a = 3 := by unfold vK; omega
                  have e2 := vS_size h4 k3
                  have e3 : ll (vS s a) = ((ll s).take (a + 3 + szT s a)).drop (a + 3) := by unfold vS; rw [if_pos k3, ll_extract]
                  have hb1 := bytN_lt s (a + 1)
                  have hb2 := bytN_lt s (a + 2)
                  rw [e, k3, dropE (show a + 1 < s.size by omega), dropE (show a + 1 + 1 < s.size by omega)]
                  unfold pkV
                  rw [if_neg (by decide), if_neg (by decide), if_pos rfl, e2]
                  have e4 : szT s a / 256 = bytN s (a + 1) := by unfold szT; omega
                  have e5 : UInt8.ofNat (szT s a) = UInt8.ofNat (bytN s (a + 2)) := by
                    apply UInt8.toNat_inj.1
                    rw [UInt8.toNat_ofNat', UInt8.toNat_ofNat']
                    unfold szT; omega
                  rw [e4, e5]
                  show 3 :: _ :: _ :: _ = 3 :: _ :: _ :: (ll (vS s a) ++ _)
                  rw [e3]
                  congr 3
                  rw [List.drop_take, show a + 3 + szT s a - (a + 3) = szT s a by omega]
                  rw [show List.drop (a + 3 + szT s a) (ll s) = List.drop (szT s a) (List.drop (a + 3) (ll s)) by rw [List.drop_drop], List.take_append_drop]
                · cases h
              · cases h
    · unfold cs
      split
      · rename_i k3
        have k3' : bytN s a = 3 := by unfold vK at k3; omega
        have : szT s a ≤ 1000 := by
          unfold okV at hok
          simpa [k3'] using hok
        unfold vS
        rw [if_pos k3', ByteArray.size_extract]
        omega
      · decide
  · cases h
theorem sxt_of {s : ByteArray} {a p : Nat} {z : List UInt8} (h : nxt s a = some p) (hb : (ll s).drop a = pkV (vK s a) (vN s a) (vS s a) ++ z) (hf : (cs (vK s a) (vS s a)).size ≤ 1000) : sxt s a = some p := by
  unfold sxt
  rw [if_pos ?_]
  · exact h
  · unfold okV
    by_cases k1 : bytN s a = 1
    · have e : vK s a = 1 := by unfold vK; omega
      have h' := h
      unfold nxt at h'
      split at h'
      · cases h'
      · simp only [k1, if_false, Nat.succ_ne_zero] at h'
        split at h'
        · rename_i hsz h2
          rw [dropE (by omega), dropE (show a + 1 < s.size by omega), e] at hb
          unfold pkV at hb
          rw [if_pos rfl] at hb
          simp only [List.cons_append, List.cons.injEq] at hb
          have hc := congrArg UInt8.toNat hb.2.1
          rw [UInt8.toNat_ofNat', UInt8.toNat_ofNat'] at hc
          have := bytN_lt s (a + 1)
          have : bytN s (a + 1) ≤ 1 := by
            split at hc <;> omega
          simp [k1, this]
        · cases h'
    · by_cases k3 : bytN s a = 3
      · have e : vK s a = 3 := by unfold vK; omega
        have h' := h
        unfold nxt at h'
        split at h'
        · cases h'
        · simp only [k3, reduceIte, show ¬ (3 = 0) by decide, show ¬ (3 = 2) by decide] at h'
          split at h'
          · rename_i hsz h2
            have e2 := vS_size h2.2 k3
            unfold cs at hf
            rw [if_pos e, e2] at hf
            simp [k3, hf]
          · cases h'
      · simp [k1, k3]
theorem nxt_le {s : ByteArray} {a p : Nat} (h : nxt s a = some p) : a < p ∧ p ≤ s.size := by
  unfold nxt at h
  split at h
  · cases h
  · split at h
    · cases h; omega
    · split at h
      · split at h
        · cases h; omega
        · cases h
      · split at h
        · split at h
          · cases h; omega
          · cases h
        · split at h
          · split at h
            · cases h; omega
            · cases h
          · cases h
/- the values of a text -/
def pR (s : ByteArray) : Nat → Option Nat := pos (nxt s)
def pS (s : ByteArray) : Nat → Option Nat := pos (sxt s)
def aR (s : ByteArray) (i : Nat) : Nat := (pR s i).getD 0
def uK (s : ByteArray) (i : Nat) : Int := vK s (aR s i)
def uN (s : ByteArray) (i : Nat) : Int := vN s (aR s i)
def uS (s : ByteArray) (i : Nat) : ByteArray := vS s (aR s i)
theorem pR_succ {s : ByteArray} {i p : Nat} (h : pR s i = some p) : pR s (i + 1) = nxt s p := by
  show (pR s i).bind (nxt s) = _
  rw [h]; rfl
theorem pS_succ {s : ByteArray} {i p : Nat} (h : pS s i = some p) : pS s (i + 1) = sxt s p := by
  show (pS s i).bind (sxt s) = _
  rw [h]; rfl
theorem pS_none {s : ByteArray} {i : Nat} (h : pS s i = none) : ∀ j, i ≤ j → pS s j = none := by
  intro j hj
  induction j with
  | zero => obtain rfl : i = 0 := by omega
            exact h
  | succ j ih =>
    by_cases e : i = j + 1
    · subst e; exact h
    · show (pS s j).bind (sxt s) = none
      rw [ih (by omega)]; rfl
theorem pR_none {s : ByteArray} {i : Nat} (h : pR s i = none) : ∀ j, i ≤ j → pR s j = none := by
  intro j hj
  induction j with
  | zero => obtain rfl : i = 0 := by omega
            exact h
  | succ j ih =>
    by_cases e : i = j + 1
    · subst e; exact h
    · show (pR s j).bind (nxt s) = none
      rw [ih (by omega)]; rfl
theorem aR_of {s : ByteArray} {i p : Nat} (h : pR s i = some p) : aR s i = p := by unfold aR; rw [h]; rfl
theorem pS_pR {s : ByteArray} : ∀ {i p : Nat}, pS s i = some p → pR s i = some p ∧ (ll s).drop 1 = pkL (uK s) (uN s) (uS s) i ++ (ll s).drop p ∧ fit (uK s) (uS s) i
  | 0, p, h => by
    have : p = 1 := by cases h; rfl
    subst this
    exact ⟨rfl, rfl, fun i hi => absurd hi (by omega)⟩
  | i + 1, p, h => by
    cases hq : pS s i with
    | none => rw [pS_none hq (i + 1) (by omega)] at h; cases h
    | some q =>
      obtain ⟨h1, h2, h3⟩ := pS_pR hq
      rw [pS_succ hq] at h
      obtain ⟨g1, g2, g3⟩ := sxt_bytes h
      have ea := aR_of h1
      refine ⟨by rw [pR_succ h1, g3], ?_, ?_⟩
      · rw [h2, g1]
        show _ = (pkL (uK s) (uN s) (uS s) i ++ pkV (uK s i) (uN s i) (uS s i)) ++ _
        unfold uK uN uS
        rw [ea, List.append_assoc]
      · intro j hj
        by_cases e : j = i
        · subst e
          unfold uK uS
          rw [ea]; exact g2
        · exact h3 j (by omega)
theorem pkL_pre (K N : Nat → Int) (S : Nat → ByteArray) (i : Nat) : ∀ c, i ≤ c → ∃ z, pkL K N S c = pkL K N S i ++ z := by
  intro c h
  induction c with
  | zero => obtain rfl : i = 0 := by omega
            exact ⟨[], by simp⟩
  | succ c ih =>
    by_cases e : i = c + 1
    · subst e; exact ⟨[], by simp⟩
    · obtain ⟨z, hz⟩ := ih (by omega)
      refine ⟨z ++ pkV (K c) (N c) (S c), ?_⟩
      show pkL K N S c ++ _ = _
      rw [hz, List.append_assoc]
theorem pR_pS {s : ByteArray} {c r : Nat} (hr : pR s c = some r) (hp : (ll s).drop 1 = pkL (uK s) (uN s) (uS s) c) (hf : fit (uK s) (uS s) c) : ∀ i, i ≤ c → pS s i = pR s i
  | 0, _ => rfl
  | i + 1, hi => by
    have ih := pR_pS hr hp hf i (by omega)
    cases hq : pR s i with
    | none => rw [pR_none hq c (by omega)] at hr; cases hr
    | some q =>
      rw [hq] at ih
      obtain ⟨h1, h2, h3⟩ := pS_pR ih
      have ea := aR_of h1
      rw [pS_succ ih, pR_succ h1]
      cases hn : nxt s q with
      | none => rw [pR_none (by rw [pR_succ h1]; exact hn) c hi] at hr; cases hr
      | some p =>
        obtain ⟨z, hz⟩ := pkL_pre (uK s) (uN s) (uS s) (i + 1) c hi
        have e : (ll s).drop q = pkV (vK s q) (vN s q) (vS s q) ++ z := by
          have h4 : pkL (uK s) (uN s) (uS s) i ++ (ll s).drop q = pkL (uK s) (uN s) (uS s) i ++ (pkV (vK s q) (vN s q) (vS s q) ++ z) := by
            rw [← h2, hp, hz]
            show (pkL (uK s) (uN s) (uS s) i ++ pkV (uK s i) (uN s i) (uS s i)) ++ _ = _
            unfold uK uN uS
            rw [ea, List.append_assoc]
          exact List.append_cancel_left h4
        have hfi := hf i (by omega)
        unfold uK uS at hfi
        rw [ea] at hfi
        exact sxt_of hn e hfi
/- is it a row? -/
def acc (s : ByteArray) : Prop := 0 < s.size ∧ bytN s 0 ≤ 64 ∧ pS s (bytN s 0) = some s.size
theorem pos_le {s : ByteArray} (hs : 0 < s.size) : ∀ {i p : Nat}, pR s i = some p → 1 ≤ p ∧ p ≤ s.size
  | 0, p, h => by cases h; omega
  | i + 1, p, h => by
    cases hq : pR s i with
    | none => rw [pR_none hq (i + 1) (by omega)] at h; cases h
    | some q =>
      have := pos_le hs hq
      rw [pR_succ hq] at h
      have := nxt_le h
      omega
theorem acc_pack {s : ByteArray} (h : acc s) : pR s (bytN s 0) = some s.size ∧ paE (uK s) (uS s) (bytN s 0) = 0 ∧ paS (uK s) (uN s) (uS s) (bytN s 0) = s := by
  obtain ⟨h0, h1, h2⟩ := h
  obtain ⟨g1, g2, g3⟩ := pS_pR h2
  refine ⟨g1, ?_, ?_⟩
  · unfold paE; rw [if_pos ⟨h1, g3⟩]
  · unfold paS; rw [if_pos ⟨h1, g3⟩]
    apply ll_inj
    show UInt8.ofNat (bytN s 0) :: pkL _ _ _ _ = ll s
    have e := dropE (a := 0) h0
    rw [Nat.zero_add, g2] at e
    rw [show ll s = (ll s).drop 0 from rfl, e, List.drop_of_length_le (by rw [ll_len]; omega), List.append_nil]
theorem pack_acc {s : ByteArray} (h0 : 0 < s.size) {r : Nat} (hr : pR s (bytN s 0) = some r) (he : paE (uK s) (uS s) (bytN s 0) = 0) (hs : paS (uK s) (uN s) (uS s) (bytN s 0) = s) : acc s := by
  have hf : bytN s 0 ≤ 64 ∧ fit (uK s) (uS s) (bytN s 0) := by
    unfold paE at he
    split at he
    · assumption
    · cases he
  unfold paS at hs
  rw [if_pos hf] at hs
  have hl : UInt8.ofNat (bytN s 0) :: pkL (uK s) (uN s) (uS s) (bytN s 0) = ll s := congrArg ll hs
  have hp : (ll s).drop 1 = pkL (uK s) (uN s) (uS s) (bytN s 0) := by rw [← hl]; rfl
  have e1 := pR_pS hr hp hf.2 _ (Nat.le_refl _)
  rw [hr] at e1
  refine ⟨h0, hf.1, ?_⟩
  obtain ⟨_, g2, _⟩ := pS_pR e1
  rw [hp] at g2
  have : (ll s).drop r = [] := by
    have h4 : pkL (uK s) (uN s) (uS s) (bytN s 0) ++ [] = pkL (uK s) (uN s) (uS s) (bytN s 0) ++ (ll s).drop r := by rw [List.append_nil]; exact g2
    exact (List.append_cancel_left h4).symm
  have hlen := congrArg List.length this
  rw [List.length_drop, ll_len] at hlen
  have := pos_le h0 hr
  rw [e1]
  congr 1
  simp at hlen
  omega

/- a value at the beginning of what is left -/
theorem szT_ex (s : ByteArray) (a b : Nat) : szT (ex s a) b = szT s (a + b) := by unfold szT; rw [bytN_ex, bytN_ex]; rfl
theorem vK_ex (s : ByteArray) (a : Nat) : vK (ex s a) 0 = vK s a := by unfold vK; rw [bytN_ex]; rfl
theorem vN_ex (s : ByteArray) (a : Nat) : vN (ex s a) 0 = vN s a := by unfold vN; rw [bytN_ex, bytN_ex, ex_ex]; rfl
theorem vS_ex (s : ByteArray) (a : Nat) : vS (ex s a) 0 = vS s a := by
  unfold vS
  rw [bytN_ex, szT_ex, ex_extract]
  simp only [Nat.add_zero, Nat.zero_add]
  rw [show a + (3 + szT s a) = a + 3 + szT s a by omega]
theorem okV_ex (s : ByteArray) (a : Nat) : okV (ex s a) 0 = okV s a := by unfold okV; rw [bytN_ex, bytN_ex, szT_ex]; rfl
theorem nxt_ex {s : ByteArray} {a : Nat} (h : a ≤ s.size) : nxt s a = (nxt (ex s a) 0).map (a + ·) := by
  unfold nxt
  rw [bytN_ex, szT_ex, ex_size]
  simp only [Nat.add_zero, Nat.zero_add]
  by_cases h0 : s.size ≤ a
  · rw [if_pos h0, if_pos (by omega)]; rfl
  · rw [if_neg h0, if_neg (show ¬ s.size - a ≤ 0 by omega)]
    split
    · rfl
    · split
      · by_cases h1 : a + 2 ≤ s.size
        · rw [if_pos h1, if_pos (by omega)]; rfl
        · rw [if_neg h1, if_neg (by omega)]; rfl
      · split
        · by_cases h1 : a + 9 ≤ s.size
          · rw [if_pos h1, if_pos (by omega)]; rfl
          · rw [if_neg h1, if_neg (by omega)]; rfl
        · split
          · by_cases h1 : a + 3 ≤ s.size ∧ a + 3 + szT s a ≤ s.size
            · rw [if_pos h1, if_pos (by omega)]
              show some (a + 3 + szT s a) = some (a + (3 + szT s a))
              congr 1
              omega
            · rw [if_neg h1, if_neg (by omega)]; rfl
          · rfl
theorem sxt_ex {s : ByteArray} {a : Nat} (h : a ≤ s.size) : sxt s a = (sxt (ex s a) 0).map (a + ·) := by
  unfold sxt
  rw [okV_ex, nxt_ex h]
  split <;> rfl
end Go.Proofs.Ythimnpobcfkghaa
