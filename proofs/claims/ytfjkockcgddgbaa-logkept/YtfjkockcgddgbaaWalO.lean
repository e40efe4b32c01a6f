/- a log of 40 to 52 bytes tells what it tells with zeros behind it -/
import Derived.Test.YtfjkockcgddgbaaWalQ
namespace Go.Proofs.Ytfjkockcgddgbaa
def headP (log : List UInt8) : ByteArray := ⟨((fil log 64).take 64).toArray⟩
theorem headP_size (log : List UInt8) : (headP log).size = 64 := by
  show ((fil log 64).take 64).toArray.size = 64
  rw [List.size_toArray, List.length_take, fil_len]
  omega
theorem headP_long {log : List UInt8} (h : 64 ≤ log.length) : headP log = headB log := by
  unfold headP headB
  rw [fil_le h]
def bL (l : List UInt8) (i : Nat) : UInt8 := (l[i]?).getD 0
theorem bL_fil (l : List UInt8) (n i : Nat) : bL (fil l n) i = bL l i := by
  unfold bL fil
  by_cases h : i < l.length
  · rw [List.getElem?_append_left h]
  · rw [List.getElem?_append_right (by omega), List.getElem?_replicate, List.getElem?_eq_none (by omega)]
    split <;> rfl
theorem headP_byt (log : List UInt8) {i : Nat} (h : i < 64) : bytS (headP log) i = (bL log i).toNat := by
  have hs := headP_size log
  rw [← bL_fil log 64 i]
  unfold bytS bL
  rw [dif_pos (by omega)]
  have hl : i < ((fil log 64).take 64).length := by rw [List.length_take, fil_len]; omega
  show (((fil log 64).take 64).toArray[i]'(by simpa using hl)).toNat = _
  rw [List.getElem_toArray, List.getElem_take, List.getElem?_eq_getElem (by rw [fil_len]; omega)]
  rfl
theorem bytS_ll (t : ByteArray) (i : Nat) : (bL (ll t) i).toNat = bytS t i := by
  unfold bytS bL ll
  by_cases h : i < t.size
  · rw [dif_pos h, List.getElem?_eq_getElem (show i < t.data.toList.length from h)]
    rfl
  · rw [dif_neg h, List.getElem?_eq_none (show t.data.toList.length ≤ i from Nat.le_of_not_lt h)]
    rfl
theorem ext_byt {a b : ByteArray} (hs : a.size = b.size) (h : ∀ i, i < a.size → bytS a i = bytS b i) : a = b := by
  apply ByteArray.ext
  apply Array.ext
  · exact hs
  · intro i h1 h2
    have := h i h1
    unfold bytS at this
    rw [dif_pos (show i < a.size from h1), dif_pos (show i < b.size from h2)] at this
    exact UInt8.toNat_inj.1 this
theorem head_len {log : List UInt8} (h : log.length ≤ 64) : (headB log).size = log.length := by
  show (log.take 64).toArray.size = log.length
  rw [List.size_toArray, List.length_take]
  omega
theorem headB_byt {log : List UInt8} (h : log.length ≤ 64) (i : Nat) : bytS (headB log) i = (bL log i).toNat := by
  rw [← bytS_ll]
  show (bL (log.take 64).toArray.toList i).toNat = _
  rw [List.take_of_length_le h]
theorem pad_byte {log : List UInt8} (h : log.length ≤ 64) (i : Nat) : bytS (headP log) i = bytS (headB log) i := by
  by_cases hi : i < 64
  · rw [headP_byt _ hi, headB_byt h]
  · have h1 := headP_size log
    have h2 := head_len h
    unfold bytS
    rw [dif_neg (by omega), dif_neg (by omega)]
theorem pad_num {log : List UInt8} (h : log.length ≤ 64) (p : Nat) : numB (headP log) p = numB (headB log) p := num_same fun i _ => pad_byte h (p + i)
theorem pad_cut {log : List UInt8} (h : log.length ≤ 64) {a b : Nat} (hb : b ≤ log.length) : (headP log).extract a b = (headB log).extract a b := by
  have h1 := headP_size log
  have h2 := head_len h
  refine ext_byt (by rw [ByteArray.size_extract, ByteArray.size_extract]; omega) fun i hi => ?_
  rw [ByteArray.size_extract] at hi
  rw [byt_cut (by omega) (by omega), byt_cut (by omega) (by omega), pad_byte h]
theorem pad_mark {log : List UInt8} (h : (40 ≤ log.length ∧ log.length ≤ 52) ∨ 64 ≤ log.length) : isMark (headP log) = isMark (headB log) := by
  rcases h with h | h
  · have h2 := head_len (log := log) (by omega)
    unfold isMark
    rw [pad_cut (by omega) (by omega), headP_size, h2]
    congr 1
    exact propext ⟨fun k => ⟨by omega, k.2⟩, fun k => ⟨by omega, k.2⟩⟩
  · rw [headP_long h]
theorem num_far {s : ByteArray} {p : Nat} (h : s.size ≤ p) : numB s p = 0 := by
  have z : ∀ i, bytS s (p + i) = 0 := fun i => by unfold bytS; rw [dif_neg (by omega)]
  unfold numB
  have z0 : bytS s p = 0 := z 0
  simp [numK, z, z0]
theorem told_zero {head : ByteArray} {q slot size : Nat} (h : (toldA head q slot size).number = 0) : toldA head q slot size = cm0 := by
  revert h
  unfold toldA
  split
  · exact fun _ => rfl
  · split
    · exact fun _ => rfl
    · rename_i _ hn
      split
      · exact fun _ => rfl
      · split
        · exact fun _ => rfl
        · intro h
          exact absurd (fun k => by have : numB head q = 0 := h; omega) hn
theorem pad_told {log : List UInt8} (h : (40 ≤ log.length ∧ log.length ≤ 52) ∨ 64 ≤ log.length) {slot : Nat} (hs : slot ≤ 1) (size : Nat) : toldA (headP log) (16 + 24 * slot) slot size = toldA (headB log) (16 + 24 * slot) slot size := by
  rcases h with h | h
  · have h2 := head_len (log := log) (by omega)
    have : slot = 0 ∨ slot = 1 := by omega
    rcases this with rfl | rfl
    · unfold toldA
      rw [pad_num (by omega), pad_num (by omega), pad_num (by omega), pad_cut (by omega) (by omega), if_neg (show ¬ (headP log).size < 16 + 24 * 0 + 24 by rw [headP_size]; omega), if_neg (show ¬ (headB log).size < 16 + 24 * 0 + 24 by rw [h2]; omega)]
    · have e : toldA (headB log) (16 + 24 * 1) 1 size = cm0 := by unfold toldA; rw [if_pos (by rw [h2]; omega)]
      rw [e]
      apply told_zero
      rcases told_second (headP log) (16 + 24 * 1) 1 size with k | ⟨_, k⟩
      · exact k
      · rw [pad_num (by omega), num_far (by rw [h2]; omega)] at k
        omega
  · rw [headP_long h]
end Go.Proofs.Ytfjkockcgddgbaa
