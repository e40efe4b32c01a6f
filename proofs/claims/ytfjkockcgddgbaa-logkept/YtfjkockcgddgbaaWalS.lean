/- a file's bytes behind a write: plain facts -/
import Derived.Test.YtfjkockcgddgbaaWalR
namespace Go.Proofs.Ytfjkockcgddgbaa
theorem onL_get (q : Nat) (t : ByteArray) (l : List UInt8) (i : Nat) : bL (onL q t false l) i = if q ≤ i ∧ i < q + t.size then bL (ll t) (i - q) else bL l i := by
  have hF : ((fil l (q + t.size)).take q).length = q := by rw [List.length_take, fil_len]; omega
  have hT : (ll t).length = t.size := rfl
  have hg := bL_fil l (q + t.size)
  unfold onL
  rw [if_neg (by decide), List.append_assoc]
  by_cases h1 : i < q
  · rw [if_neg (by omega), ← hg]
    unfold bL
    rw [List.getElem?_append_left (by omega), List.getElem?_take_of_lt h1]
  · by_cases h2 : i < q + t.size
    · rw [if_pos (by omega)]
      unfold bL
      rw [List.getElem?_append_right (by omega), hF, List.getElem?_append_left (by omega)]
    · rw [if_neg (by omega), ← hg]
      unfold bL
      rw [List.getElem?_append_right (by omega), hF, List.getElem?_append_right (by omega), hT, List.getElem?_drop]
      congr 2
      omega
/- behind a slot's write: the slot's text, the other bytes as they were -/
theorem wr_in {log : List UInt8} {q : Nat} {t : ByteArray} (hq : q + t.size ≤ 64) : (headP (onL q t false log)).extract q (q + t.size) = t := by
  have hs := headP_size (onL q t false log)
  have he : ((headP (onL q t false log)).extract q (q + t.size)).size = t.size := by rw [ByteArray.size_extract]; omega
  refine ext_byt he fun i hi => ?_
  rw [he] at hi
  rw [byt_cut (by omega) (by omega), headP_byt _ (by omega), onL_get, if_pos (by omega), bytS_ll, show q + i - q = i by omega]
theorem wr_out {log : List UInt8} {q i : Nat} {t : ByteArray} (hi : i < 64) (h : i < q ∨ q + t.size ≤ i) : bytS (headP (onL q t false log)) i = bytS (headP log) i := by
  rw [headP_byt _ hi, headP_byt _ hi, onL_get, if_neg (by omega)]
theorem wr_cut {log : List UInt8} {q a b : Nat} {t : ByteArray} (hb : b ≤ 64) (h : b ≤ q ∨ q + t.size ≤ a) : (headP (onL q t false log)).extract a b = (headP log).extract a b := by
  have h1 := headP_size (onL q t false log)
  have h2 := headP_size log
  refine ext_byt (by rw [ByteArray.size_extract, ByteArray.size_extract, h1, h2]) fun i hi => ?_
  rw [ByteArray.size_extract] at hi
  rw [byt_cut (by omega) (by omega), byt_cut (by omega) (by omega)]
  exact wr_out (by omega) (by omega)
theorem wr_num {log : List UInt8} {q p : Nat} {t : ByteArray} (hp : p + 4 ≤ 64) (h : p + 4 ≤ q ∨ q + t.size ≤ p) : numB (headP (onL q t false log)) p = numB (headP log) p :=
  num_same fun i hi => wr_out (by omega) (by omega)
end Go.Proofs.Ytfjkockcgddgbaa
