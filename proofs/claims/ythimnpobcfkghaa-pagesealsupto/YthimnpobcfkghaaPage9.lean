/- What Seal has written is a page, with the same cells; no page has another byte at one place. -/
import Derived.Test.YthimnpobcfkghaaPage8
namespace Go.Proofs.Ythimnpobcfkghaa
open Go.RowKit

theorem byt_ext {a b : ByteArray} (hs : a.size = b.size) (h : ∀ i, i < a.size → byt a i = byt b i) : a = b := by
  cases a with | mk a =>
  cases b with | mk b =>
  congr 1
  apply Array.ext hs
  intro i h1 h2
  have e := h i h1
  unfold byt at e
  rw [getElem!_pos _ i (show i < (⟨a⟩ : ByteArray).size from h1), getElem!_pos _ i (show i < (⟨b⟩ : ByteArray).size from h2)] at e
  exact UInt8.toNat_inj.1 e
theorem byt_extract {s : ByteArray} {a b i : Nat} (hb : b ≤ s.size) (hi : i < b - a) : byt (s.extract a b) i = byt s (a + i) := by
  have hz : (s.extract a b).size = b - a := by rw [ByteArray.size_extract]; omega
  have h1 : i < (s.extract a b).size := by omega
  have h2 : a + i < s.size := by omega
  unfold byt
  rw [getElem!_pos _ i h1, getElem!_pos _ (a + i) h2, ByteArray.getElem_extract]
theorem size_mk (l : List UInt8) : (⟨l.toArray⟩ : ByteArray).size = l.length := by simp [ByteArray.size]
section
variable {K Lk n : Nat} {S : Nat → ByteArray}
theorem sealed_extract (hn : 4 * n + len S n ≤ 1012) {k : Nat} (hk : k + 1 ≤ n) : (⟨(sealed K Lk n S).toArray⟩ : ByteArray).extract (at' S (k + 1) + 2) (at' S k) = S k := by
  obtain ⟨a1, a2, a3⟩ := at_s hn hk
  have hz : (⟨(sealed K Lk n S).toArray⟩ : ByteArray).size = 1024 := by rw [size_mk, sealed_len hn]
  have hs : ((⟨(sealed K Lk n S).toArray⟩ : ByteArray).extract (at' S (k + 1) + 2) (at' S k)).size = (S k).size := by
    rw [ByteArray.size_extract]; omega
  refine byt_ext hs fun i hi => ?_
  rw [hs] at hi
  rw [byt_extract (by omega) (by omega), byt_mk, sealed_cell hn hk hi]
theorem sealed_rd (hn : 4 * n + len S n ≤ 1012) : ∀ f k, k + f = n → rd ⟨(sealed K Lk n S).toArray⟩ f k (at' S k) = (List.range' k f).map S
  | 0, k, _ => rfl
  | f + 1, k, hk => by
    obtain ⟨a1, a2, a3⟩ := at_s hn (show k + 1 ≤ n by omega)
    have e1 := sealed_at (K := K) (Lk := Lk) hn (show k + 1 ≤ n by omega)
    have e2 := sealed_size (K := K) (Lk := Lk) hn (show k + 1 ≤ n by omega)
    rw [rd_go (by rw [e1, e2]; omega), e1, sealed_extract hn (show k + 1 ≤ n by omega), sealed_rd hn f (k + 1) (by omega)]
    rfl
theorem sealed_cls (hn : 4 * n + len S n ≤ 1012) : cls ⟨(sealed K Lk n S).toArray⟩ = (List.range n).map S := by
  unfold cls many
  rw [sealed_many hn, Nat.min_eq_left (by omega)]
  have := sealed_rd (K := K) (Lk := Lk) hn n 0 (by omega)
  rw [show at' S 0 = 1024 from rfl] at this
  rw [this, List.range_eq_range']
end
theorem len_congr {S T : Nat → ByteArray} : ∀ {k : Nat}, (∀ i, i < k → S i = T i) → len S k = len T k
  | 0, _ => rfl
  | k + 1, h => by
    show len S k + (S k).size = len T k + (T k).size
    rw [len_congr (fun i hi => h i (by omega)), h k (by omega)]
theorem at_congr {S T : Nat → ByteArray} {k : Nat} (h : ∀ i, i < k → S i = T i) : at' S k = at' T k := by
  unfold at'
  rw [len_congr h]
theorem lay_congr {S T : Nat → ByteArray} (l : List UInt8) : ∀ {k : Nat}, (∀ i, i < k → S i = T i) → lay S l k = lay T l k
  | 0, _ => rfl
  | k + 1, h => by
    show spl _ _ (S k) = spl _ _ (T k)
    rw [lay_congr l (fun i hi => h i (by omega)), at_congr h, h k (by omega)]
theorem sealed_congr {S T : Nat → ByteArray} {K Lk n : Nat} (h : ∀ i, i < n → S i = T i) : sealed K Lk n S = sealed K Lk n T := by
  unfold sealed body
  rw [lay_congr _ h]
theorem tx_range {n : Nat} (S : Nat → ByteArray) {i : Nat} (hi : i < n) : tx ((List.range n).map S) i = S i := by
  unfold tx
  rw [List.getD_eq_getElem?_getD, List.getElem?_map, List.getElem?_range hi]
  rfl
theorem sealed_good {K Lk n : Nat} {S : Nat → ByteArray} (hK : 1 ≤ K ∧ K ≤ 5) (hL : Lk ≤ 2147483647) (hn : 4 * n + len S n ≤ 1012) : good ⟨(sealed K Lk n S).toArray⟩ := by
  have e1 := sealed_kind (K := K) (Lk := Lk) hn hK.2
  have e2 := sealed_link (K := K) (Lk := Lk) hn hL
  have e3 := sealed_cls (K := K) (Lk := Lk) hn
  have hl : ((List.range n).map S).length = n := by simp
  have hc : ∀ i, i < n → tx ((List.range n).map S) i = S i := fun i hi => tx_range S hi
  unfold good
  rw [e1, e2, e3, hl, len_congr hc, sealed_congr hc]
  exact ⟨⟨hK.1, hK.2, hL⟩, hn, rfl⟩

/- the sum stands ahead -/
def rest (s : ByteArray) : ByteArray := ⟨(s.data.toList.drop 4).toArray⟩
theorem sealed_sum {K Lk n : Nat} {S : Nat → ByteArray} (hn : 4 * n + len S n ≤ 1012) : four ⟨(sealed K Lk n S).toArray⟩ 0 = crc (rest ⟨(sealed K Lk n S).toArray⟩) := by
  have hb := body_len (K := K) (Lk := Lk) hn
  have e : rest ⟨(sealed K Lk n S).toArray⟩ = ⟨((body K Lk n S).drop 4).toArray⟩ := by
    unfold rest sealed put4 put2
    simp only [List.drop_set]
    simp
  rw [e]
  have hc := crc_lt ⟨((body K Lk n S).drop 4).toArray⟩
  unfold four
  rw [two_mk, two_mk]
  unfold sealed
  generalize crc ⟨((body K Lk n S).drop 4).toArray⟩ = c at *
  rw [vw_put4 (by omega), vw_put4 (by omega), vw_put4 (by omega), vw_put4 (by omega)]
  simp
  omega
theorem good_sum {s : ByteArray} (h : good s) : four s 0 = crc (rest s) := by
  have e := sealed_sum (K := byt s 4) (Lk := four s 8) h.2.1
  rw [h.2.2] at e
  exact e
/- s and t part at one place alone -/
theorem not_good {s t : ByteArray} (hs : s.size = 1024) (ht : t.size = 1024) (hg : good s) {j : Nat} (hj : j < 1024) (hne : byt s j ≠ byt t j) (hsame : ∀ i, i ≠ j → byt s i = byt t i) : ¬ good t := by
  intro hgt
  have e1 := good_sum hg
  have e2 := good_sum hgt
  have hr : ∀ (u : ByteArray) (i : Nat), (rest u)[i]! = u[4 + i]! := by
    intro u i
    unfold rest
    rw [get_mk]
    have : u = ⟨u.data.toList.toArray⟩ := by cases u; simp
    conv => rhs; rw [this]
    rw [get_mk, List.getD_eq_getElem?_getD, List.getD_eq_getElem?_getD, List.getElem?_drop]
  have hrz : ∀ (u : ByteArray), u.size = 1024 → (rest u).size = 1020 := by
    intro u hu
    unfold rest
    rw [size_mk, List.length_drop]
    have : u.data.toList.length = u.size := rfl
    omega
  have hget : ∀ i, i ≠ j → s[i]! = t[i]! := fun i hi => UInt8.toNat_inj.1 (hsame i hi)
  by_cases h4 : j < 4
  · have er : crc (rest s) = crc (rest t) := by
      unfold crc
      rw [hrz s hs, hrz t ht, fold_congr (s := rest s) (t := rest t) _ (fun i _ => by rw [hr, hr, hget _ (by omega)])]
    rw [er, ← e2] at e1
    have e1 : (byt s 0 * 256 + byt s 1) * 65536 + (byt s 2 * 256 + byt s 3) = (byt t 0 * 256 + byt t 1) * 65536 + (byt t 2 * 256 + byt t 3) := e1
    have b0 := byt_lt s 0
    have b1 := byt_lt s 1
    have b2 := byt_lt s 2
    have b3 := byt_lt s 3
    have c0 := byt_lt t 0
    have c1 := byt_lt t 1
    have c2 := byt_lt t 2
    have c3 := byt_lt t 3
    have h0 : byt s 0 = byt t 0 := by omega
    have h1 : byt s 1 = byt t 1 := by omega
    have h2 : byt s 2 = byt t 2 := by omega
    have h3 : byt s 3 = byt t 3 := by omega
    rcases (show j = 0 ∨ j = 1 ∨ j = 2 ∨ j = 3 by omega) with rfl | rfl | rfl | rfl
    · exact hne h0
    · exact hne h1
    · exact hne h2
    · exact hne h3
  · have hf : four s 0 = four t 0 := by
      unfold four two
      rw [hsame _ (by omega), hsame _ (by omega), hsame _ (by omega), hsame _ (by omega)]
    refine crc_ne (s := rest s) (t := rest t) (by rw [hrz s hs, hrz t ht]) (j := j - 4) (by rw [hrz s hs]; omega) ?_ ?_ ?_
    · rw [hr, hr, show 4 + (j - 4) = j by omega]
      intro e
      exact hne (congrArg UInt8.toNat e)
    · intro i hi
      rw [hr, hr, hget _ (by omega)]
    · rw [← e1, ← e2, hf]
end Go.Proofs.Ythimnpobcfkghaa
