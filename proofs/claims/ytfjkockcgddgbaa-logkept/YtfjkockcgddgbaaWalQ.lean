/- what a slot's text tells: plain facts -/
import Derived.Test.YtfjkockcgddgbaaWalN
namespace Go.Proofs.Ytfjkockcgddgbaa
theorem byt_cut {s : ByteArray} {p q i : Nat} (hq : q ≤ s.size) (hi : p + i < q) : bytS (s.extract p q) i = bytS s (p + i) := by
  unfold bytS
  have h1 : i < (s.extract p q).size := by rw [ByteArray.size_extract]; omega
  rw [dif_pos h1, dif_pos (by omega), ByteArray.getElem_extract]
theorem byt_left {a b : ByteArray} {i : Nat} (h : i < a.size) : bytS (a ++ b) i = bytS a i := by
  unfold bytS
  rw [dif_pos (by rw [ByteArray.size_append]; omega), dif_pos h, ByteArray.getElem_append_left h]
theorem byt_right {a b : ByteArray} {i : Nat} : bytS (a ++ b) (a.size + i) = bytS b i := by
  unfold bytS
  by_cases h : i < b.size
  · rw [dif_pos (by rw [ByteArray.size_append]; omega), dif_pos h, ByteArray.getElem_append_right (by omega)]
    congr 2
    omega
  · rw [dif_neg (by rw [ByteArray.size_append]; omega), dif_neg h]
theorem four_num {n : Nat} (h : n < 4294967296) : numB (fourB n) 0 = n := by
  have b0 : bytS (fourB n) 0 = n / 16777216 % 256 := rfl
  have b1 : bytS (fourB n) 1 = n / 65536 % 256 := rfl
  have b2 : bytS (fourB n) 2 = n / 256 % 256 := rfl
  have b3 : bytS (fourB n) 3 = n % 256 := rfl
  unfold numB numK numK numK numK numK
  simp only [Nat.zero_add, b0, b1, b2, b3]
  omega
theorem num_same {a b : ByteArray} {p q : Nat} (h : ∀ i < 4, bytS a (p + i) = bytS b (q + i)) : numB a p = numB b q := by
  unfold numB numK numK numK numK numK
  rw [h 0 (by decide), h 1 (by decide), h 2 (by decide), h 3 (by decide)]
theorem half_num {n f p : Nat} (hn : n < 4294967296) (hf : f < 4294967296) (hp : p < 4294967296) : numB (halfB n f p) 0 = n ∧ numB (halfB n f p) 4 = f ∧ numB (halfB n f p) 8 = p := by
  have s1 : (fourB n ++ fourB f).size = 8 := by rw [ByteArray.size_append]; rfl
  refine ⟨?_, ?_, ?_⟩
  · refine (num_same (b := fourB n) (q := 0) fun i hi => ?_).trans (four_num hn)
    show bytS (fourB n ++ fourB f ++ fourB p) (0 + i) = _
    rw [byt_left (by omega), byt_left (by rw [fourB_size]; omega)]
  · refine (num_same (b := fourB f) (q := 0) fun i hi => ?_).trans (four_num hf)
    show bytS (fourB n ++ fourB f ++ fourB p) ((fourB n).size + i) = _
    rw [byt_left (by rw [s1, fourB_size]; omega), byt_right, Nat.zero_add]
  · refine (num_same (b := fourB p) (q := 0) fun i hi => ?_).trans (four_num hp)
    have e : (8 : Nat) + i = (fourB n ++ fourB f).size + i := by rw [s1]
    show bytS (fourB n ++ fourB f ++ fourB p) (8 + i) = _
    rw [e, byt_right, Nat.zero_add]
theorem txt_num {n f p : Nat} (hn : n < 4294967296) (hf : f < 4294967296) (hp : p < 4294967296) : numB (txtB n f p) 0 = n ∧ numB (txtB n f p) 4 = f ∧ numB (txtB n f p) 8 = p := by
  obtain ⟨h1, h2, h3⟩ := half_num hn hf hp
  have k : ∀ q, q + 4 ≤ 12 → numB (txtB n f p) q = numB (halfB n f p) q := fun q hq => num_same fun i hi => by
    unfold txtB
    rw [byt_left (by rw [halfB_size]; omega)]
  exact ⟨(k 0 (by omega)).trans h1, (k 4 (by omega)).trans h2, (k 8 (by omega)).trans h3⟩
/- a slot that holds a commit's text tells it -/
theorem told_of {head : ByteArray} {q slot size n f p : Nat} (hs : q + 24 ≤ head.size) (h : head.extract q (q + 24) = txtB n f p) (hn : 1 ≤ n ∧ n ≤ 3) (hf : f < 4294967296) (hp : p < 4294967296) (hz : f = 0 ∨ 64 + 1028 * f ≤ size) : toldA head q slot size = ⟨slot, n, f, p⟩ := by
  obtain ⟨h1, h2, h3⟩ := txt_num (n := n) (by omega) hf hp
  have k : ∀ d, d + 4 ≤ 24 → numB head (q + d) = numB (txtB n f p) d := fun d hd => num_same fun i hi => by
    rw [← h, byt_cut hs (by omega), Nat.add_assoc]
  have e0 : numB head q = n := (k 0 (by omega)).trans h1
  have e4 : numB head (q + 4) = f := (k 4 (by omega)).trans h2
  have e8 : numB head (q + 8) = p := (k 8 (by omega)).trans h3
  unfold toldA
  rw [if_neg (by omega), e0, e4, e8, if_neg (fun hh => hh hn), if_neg (fun hh => hh h.symm), if_neg (by omega)]
theorem num_lt (s : ByteArray) (p : Nat) : numB s p < 4294967296 := numK_lt s p 4
theorem txt_second {n f p : Nat} (hn : n < 4294967296) (hf : f < 4294967296) (hp : p < 4294967296) : numB (txtB n f p) 12 = n := by
  obtain ⟨h1, _, _⟩ := half_num hn hf hp
  refine (num_same (b := halfB n f p) (q := 0) fun i hi => ?_).trans h1
  have e : (12 : Nat) + i = (halfB n f p).size + i := by rw [halfB_size]
  unfold txtB
  rw [e, byt_right, Nat.zero_add]
/- what a slot tells is the number in its second half, or nothing -/
theorem told_second (head : ByteArray) (q slot size : Nat) : (toldA head q slot size).number = 0 ∨ ((toldA head q slot size).number = numB head (q + 12) ∧ 1 ≤ numB head (q + 12)) := by
  unfold toldA
  by_cases h1 : head.size < q + 24
  · rw [if_pos h1]; exact .inl rfl
  · rw [if_neg h1]
    by_cases h2 : 1 ≤ numB head q ∧ numB head q ≤ 3
    · rw [if_neg (fun h => h h2)]
      by_cases h3 : txtB (numB head q) (numB head (q + 4)) (numB head (q + 8)) = head.extract q (q + 24)
      · rw [if_neg (fun h => h h3)]
        have k : numB head (q + 12) = numB head q := by
          refine Eq.trans ?_ (txt_second (num_lt head q) (num_lt head (q + 4)) (num_lt head (q + 8)))
          refine num_same fun i hi => ?_
          rw [h3, byt_cut (by omega) (by omega), Nat.add_assoc]
        split
        · exact .inl rfl
        · exact .inr ⟨k.symm, by omega⟩
      · rw [if_pos h3]; exact .inl rfl
    · rw [if_pos h2]; exact .inl rfl
end Go.Proofs.Ytfjkockcgddgbaa
