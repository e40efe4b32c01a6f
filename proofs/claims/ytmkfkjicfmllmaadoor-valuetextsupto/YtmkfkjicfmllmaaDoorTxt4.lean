/- what a text is as a number: the library's words against the digits' -/
import Derived.Test.YtmkfkjicfmllmaaDoorTxt3
import Derived.Lib.ParseIntB
namespace Go.Proofs.YtmkfkjicfmllmaaDoor
open Go.RowKit
def allD (l : List UInt8) : Prop := ∀ c ∈ l, dgt c = true
def dv (acc : Nat) : List UInt8 → Nat
  | [] => acc
  | c :: r => dv (acc * 10 + (c.toNat - 48)) r
theorem dv_ge : ∀ (l : List UInt8) (acc : Nat), acc ≤ dv acc l
  | [], acc => Nat.le_refl _
  | c :: r, acc => Nat.le_trans (by omega) (dv_ge r (acc * 10 + (c.toNat - 48)))
theorem dgt_iff (c : UInt8) : dgt c = true ↔ 48 ≤ c.toNat ∧ c.toNat ≤ 57 := by
  unfold dgt
  simp only [Bool.and_eq_true, decide_eq_true_eq]
def mx : Nat := 18446744073709551615
theorem parseM_ok : ∀ (l : List UInt8) (acc u : Nat), acc ≤ mx → Lib.parseUintM mx acc l = .ok u → allD l ∧ u = dv acc l ∧ u ≤ mx
  | [], acc, u, ha, h => by
    injection h with h
    subst h
    exact ⟨fun c hc => (by cases hc), rfl, ha⟩
  | c :: r, acc, u, ha, h => by
    unfold Lib.parseUintM at h
    split at h
    · rename_i hc
      split at h
      · cases h
      · split at h
        · cases h
        · rename_i h1 h2
          obtain ⟨k1, k2, k3⟩ := parseM_ok r _ u (by omega) h
          refine ⟨fun x hx => ?_, k2, k3⟩
          rcases List.mem_cons.1 hx with rfl | hx
          · exact (dgt_iff _).2 hc
          · exact k1 x hx
    · cases h
theorem parseM_of : ∀ (l : List UInt8) (acc : Nat), allD l → dv acc l ≤ mx → Lib.parseUintM mx acc l = .ok (dv acc l)
  | [], acc, _, _ => rfl
  | c :: r, acc, hl, hm => by
    have hc := (dgt_iff c).1 (hl c (List.mem_cons_self ..))
    have hge := dv_ge r (acc * 10 + (c.toNat - 48))
    have hm' : dv (acc * 10 + (c.toNat - 48)) r ≤ mx := hm
    have hb : acc * 10 + (c.toNat - 48) ≤ mx := Nat.le_trans hge hm'
    unfold mx at hb
    unfold Lib.parseUintM
    rw [if_pos hc, if_neg (by omega), if_neg (by unfold mx; omega)]
    exact parseM_of r _ (fun x hx => hl x (List.mem_cons_of_mem _ hx)) hm'
/- the value of a text by the library's words -/
def libV (s : ByteArray) : Value := match Lib.parseIntB 64 s.data.toList with | .ok v => (.agg #[.int .i64 (2), .int .i64 (v), .string (⟨#[]⟩)]) | _ => (.agg #[.int .i64 (0), .int .i64 (0), .string (⟨#[]⟩)])
/- .. by the digits -/
def wv (s : ByteArray) : Value := if h : 0 < s.size then (if (s[0]'h).toNat = 45 then wholeV true (s.extract 1 s.size) else wholeV false s) else wholeV false s
theorem dv_snoc : ∀ (l : List UInt8) (acc : Nat) (c : UInt8), dv acc (l ++ [c]) = dv acc l * 10 + (c.toNat - 48)
  | [], _, _ => rfl
  | _ :: l, _, c => dv_snoc l _ c
theorem dval_dv (d : ByteArray) (hd : allD (L d)) : ∀ i, i ≤ d.size → dval d i = (dv 0 ((L d).take i) : Int)
  | 0, _ => rfl
  | i + 1, hi => by
    have hlt : i < d.size := by omega
    have hl : i < (L d).length := by rw [L_len]; exact hlt
    rw [dval_s hlt, dval_dv d hd i (by omega), List.take_add_one, List.getElem?_eq_getElem hl]
    show _ = ((dv 0 ((L d).take i ++ [(L d)[i]]) : Nat) : Int)
    rw [dv_snoc]
    have hc := (dgt_iff _).1 (hd (L d)[i] (List.getElem_mem hl))
    have e : (L d)[i] = d[i] := rfl
    rw [e] at hc ⊢
    omega
theorem all_iff (d : ByteArray) : (∀ i (h : i < d.size), dgt (d[i]'h) = true) ↔ allD (L d) := by
  constructor
  · intro h c hc
    obtain ⟨i, hi, e⟩ := List.getElem_of_mem hc
    rw [← e]
    exact h i (by rw [← L_len]; exact hi)
  · intro h i hi
    exact h _ (List.getElem_mem (l := L d) (by rw [L_len]; exact hi))
theorem wholeV_L {neg : Bool} {d : ByteArray} (h0 : ¬ d.size = 0) (h : allD (L d)) : wholeV neg d = numV (sg neg (dv 0 (L d))) := by
  rw [wholeV_all h0 ((all_iff d).2 h), dval_dv d h d.size (Nat.le_refl _), show (L d).take d.size = L d by rw [← L_len, List.take_length]]
theorem wholeV_nL {neg : Bool} {d : ByteArray} (h0 : ¬ d.size = 0) (h : ¬ allD (L d)) : wholeV neg d = (.agg #[.int .i64 (0), .int .i64 (0), .string (⟨#[]⟩)]) := by
  unfold wholeV
  rw [if_neg h0, if_neg (fun hh => h ((all_iff d).1 hh))]
theorem fits_no {x : Int} (h : x < -9223372036854775808 ∨ 9223372036854775807 < x) : numV x = (.agg #[.int .i64 (0), .int .i64 (0), .string (⟨#[]⟩)]) := by
  have : fits x = false := by
    unfold fits lo hi
    rcases h with h | h
    · rw [decide_eq_false (by omega)]; rfl
    · rw [decide_eq_false (show ¬ x ≤ 9223372036854775807 by omega), Bool.and_false]
  unfold numV; rw [this]; rfl
theorem fits_yes {x : Int} (h : -9223372036854775808 ≤ x) (h' : x ≤ 9223372036854775807) : numV x = (.agg #[.int .i64 (2), .int .i64 (x), .string (⟨#[]⟩)]) := by
  have : fits x = true := by
    unfold fits lo hi
    rw [decide_eq_true h, decide_eq_true h']; rfl
  unfold numV; rw [this]; rfl
theorem pU (l : List UInt8) (h : ¬ l = []) : Lib.parseUintB 64 l = Lib.parseUintM mx 0 l := by
  unfold Lib.parseUintB
  rw [if_neg h]
  rfl
theorem lib_neg (c : UInt8) (r : List UInt8) (d : ByteArray) (hc : c.toNat = 45) (hd : L d = r) : (match Lib.parseIntB 64 (c :: r) with | .ok v => (.agg #[.int .i64 (2), .int .i64 (v), .string (⟨#[]⟩)]) | _ => (.agg #[.int .i64 (0), .int .i64 (0), .string (⟨#[]⟩)])) = wholeV true d := by
  have hsz : d.size = r.length := by rw [← L_len, hd]
  unfold Lib.parseIntB
  simp only [hc, or_true, if_true, not_true, false_and, if_false, true_and]
  by_cases h0 : r = []
  · rw [wholeV_nil (by rw [hsz, h0]; rfl), h0]
    rfl
  · have h0' : ¬ d.size = 0 := by rw [hsz]; intro e; exact h0 (List.eq_nil_of_length_eq_zero e)
    rw [pU r h0]
    cases hp : Lib.parseUintM mx 0 r with
    | ok u =>
      obtain ⟨k1, k2, k3⟩ := parseM_ok r 0 u (by unfold mx; omega) hp
      rw [wholeV_L h0' (by rw [hd]; exact k1), hd, ← k2]
      by_cases hu : 2 ^ (64 - 1) < u
      · rw [fits_no (by show -(u : Int) < _ ∨ _; left; omega)]
        simp [hu]
      · rw [fits_yes (by show _ ≤ -(u : Int); omega) (by show -(u : Int) ≤ _; omega)]
        simp [hu]
        rfl
    | «syntax» =>
      by_cases ha : allD r
      · rcases Nat.lt_or_ge mx (dv 0 r) with hm | hm
        · rw [wholeV_L h0' (by rw [hd]; exact ha), hd, fits_no (by show -(dv 0 r : Int) < _ ∨ _; left; unfold mx at hm; omega)]
        · rw [parseM_of r 0 ha hm] at hp; cases hp
      · rw [wholeV_nL h0' (by rw [hd]; exact ha)]
    | range =>
      by_cases ha : allD r
      · rcases Nat.lt_or_ge mx (dv 0 r) with hm | hm
        · rw [wholeV_L h0' (by rw [hd]; exact ha), hd, fits_no (by show -(dv 0 r : Int) < _ ∨ _; left; unfold mx at hm; omega)]
        · rw [parseM_of r 0 ha hm] at hp; cases hp
      · rw [wholeV_nL h0' (by rw [hd]; exact ha)]
theorem lib_pos (c : UInt8) (r : List UInt8) (d : ByteArray) (hc : ¬ c.toNat = 45) (hc' : ¬ c.toNat = 43) (hd : L d = c :: r) : (match Lib.parseIntB 64 (c :: r) with | .ok v => (.agg #[.int .i64 (2), .int .i64 (v), .string (⟨#[]⟩)]) | _ => (.agg #[.int .i64 (0), .int .i64 (0), .string (⟨#[]⟩)])) = wholeV false d := by
  have h0' : ¬ d.size = 0 := by rw [← L_len, hd]; simp
  unfold Lib.parseIntB
  simp only [hc, hc', or_false, if_false, not_false_eq_true, true_and, false_and]
  rw [pU _ (by simp)]
  cases hp : Lib.parseUintM mx 0 (c :: r) with
  | ok u =>
    obtain ⟨k1, k2, k3⟩ := parseM_ok _ 0 u (by unfold mx; omega) hp
    rw [wholeV_L h0' (by rw [hd]; exact k1), hd, ← k2]
    by_cases hu : 2 ^ (64 - 1) ≤ u
    · rw [fits_no (by show (u : Int) < _ ∨ _; right; show _ < (u : Int); omega)]
      simp [hu]
    · rw [fits_yes (by show _ ≤ (u : Int); omega) (by show (u : Int) ≤ _; omega)]
      simp [hu]
      rfl
  | «syntax» =>
    by_cases ha : allD (c :: r)
    · rcases Nat.lt_or_ge mx (dv 0 (c :: r)) with hm | hm
      · rw [wholeV_L h0' (by rw [hd]; exact ha), hd, fits_no (by show (dv 0 (c :: r) : Int) < _ ∨ _; right; show _ < (dv 0 (c :: r) : Int); unfold mx at hm; omega)]
      · rw [parseM_of _ 0 ha hm] at hp; cases hp
    · rw [wholeV_nL h0' (by rw [hd]; exact ha)]
  | range =>
    by_cases ha : allD (c :: r)
    · rcases Nat.lt_or_ge mx (dv 0 (c :: r)) with hm | hm
      · rw [wholeV_L h0' (by rw [hd]; exact ha), hd, fits_no (by show (dv 0 (c :: r) : Int) < _ ∨ _; right; show _ < (dv 0 (c :: r) : Int); unfold mx at hm; omega)]
      · rw [parseM_of _ 0 ha hm] at hp; cases hp
    · rw [wholeV_nL h0' (by rw [hd]; exact ha)]
theorem L_head {s : ByteArray} (h : 0 < s.size) : L s = s[0] :: L (s.extract 1 s.size) := by
  have hl : 0 < (L s).length := by rw [L_len]; exact h
  have e : L (s.extract 1 s.size) = (L s).drop 1 := by
    unfold L
    simp
    apply List.take_of_length_le
    rw [List.length_tail, Array.length_toList]
    exact Nat.le_refl _
  rw [e]
  exact (List.drop_eq_getElem_cons hl)
theorem lib_wv {s : ByteArray} (h : 0 < s.size) (h' : ¬ (s[0]'h).toNat = 43) : libV s = wv s := by
  have e := L_head h
  unfold libV wv
  rw [dif_pos h, show s.data.toList = L s from rfl, e]
  by_cases hc : (s[0]'h).toNat = 45
  · rw [if_pos hc]
    exact lib_neg _ _ _ hc rfl
  · rw [if_neg hc]
    exact lib_pos _ _ _ hc h' e
theorem wv_plus {s : ByteArray} (h : 0 < s.size) (h' : (s[0]'h).toNat = 43) : wv s = (.agg #[.int .i64 (0), .int .i64 (0), .string (⟨#[]⟩)]) := by
  unfold wv
  rw [dif_pos h, if_neg (by omega)]
  refine wholeV_no h ?_
  rw [dgt_iff]
  omega
theorem wv_nil {s : ByteArray} (h : s.size = 0) : wv s = (.agg #[.int .i64 (0), .int .i64 (0), .string (⟨#[]⟩)]) := by
  unfold wv
  rw [dif_neg (by omega)]
  exact wholeV_nil h
end Go.Proofs.YtmkfkjicfmllmaaDoor
