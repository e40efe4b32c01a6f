/- what a log must hold to tell a commit: plain facts -/
import Derived.Test.YtfjkockcgddgbaaWalS
namespace Go.Proofs.Ytfjkockcgddgbaa
/- the bytes of two files below a, from b on -/
theorem headP_ext {l l' : List UInt8} (h : ∀ i, i < 64 → bL l' i = bL l i) : headP l' = headP l := by
  refine ext_byt (by rw [headP_size, headP_size]) fun i hi => ?_
  rw [headP_size] at hi
  rw [headP_byt _ hi, headP_byt _ hi, h i hi]
/- what a log must hold to tell commit c -/
structure TP (log : List UInt8) (c : Cm) : Prop where
  len : (40 ≤ log.length ∧ log.length ≤ 52) ∨ 64 ≤ log.length
  mark : isMark (headP log) = true
  slot : c.slot ≤ 1
  number : 1 ≤ c.number ∧ c.number ≤ 3
  frames : c.frames < 4294967296
  pages : c.pages < 4294967296
  text : (headP log).extract (16 + 24 * c.slot) (16 + 24 * c.slot + 24) = txtB c.number c.frames c.pages
  fits : c.frames = 0 ∨ 64 + 1028 * c.frames ≤ log.length
  other : numB (headP log) (16 + 24 * (1 - c.slot) + 12) = 0 ∨ nxN (numB (headP log) (16 + 24 * (1 - c.slot) + 12)) = c.number
theorem TP.cur {log : List UInt8} {c : Cm} (h : TP log c) : CurP log c := curP_of h.len h.mark h.slot h.number h.frames h.pages h.text h.fits h.other
theorem TP.last {log : List UInt8} {c : Cm} (h : TP log c) : lastC log = c := h.cur.last
theorem TP.ok {log : List UInt8} {c : Cm} (h : TP log c) : okCm c := by rw [← h.last]; exact last_ok log
theorem TP.keep {log log' : List UInt8} {c : Cm} (h : TP log c) (hb : ∀ i, i < 64 → bL log' i = bL log i) (hl : (40 ≤ log'.length ∧ log'.length ≤ 52) ∨ 64 ≤ log'.length) (hf : c.frames = 0 ∨ 64 + 1028 * c.frames ≤ log'.length) : TP log' c := by
  have e := headP_ext hb
  exact ⟨hl, by rw [e]; exact h.mark, h.slot, h.number, h.frames, h.pages, by rw [e]; exact h.text, hf, by rw [e]; exact h.other⟩
theorem mark_wr {log : List UInt8} {q : Nat} {t : ByteArray} (hq : 16 ≤ q) : isMark (headP (onL q t false log)) = isMark (headP log) := by
  unfold isMark
  rw [headP_size, headP_size, wr_cut (by omega) (.inl hq)]
/- the slot's number in its second half -/
theorem TP.second {log : List UInt8} {c : Cm} (h : TP log c) : numB (headP log) (16 + 24 * c.slot + 12) = c.number := by
  have hn := h.number
  refine Eq.trans ?_ (txt_second (n := c.number) (by omega) h.frames h.pages)
  have hs := headP_size log
  have := h.slot
  refine num_same fun i hi => ?_
  rw [← h.text, byt_cut (by omega) (by omega), Nat.add_assoc]
/- the next commit's slot is written whole -/
theorem TP.whole {log : List UInt8} {c : Cm} (h : TP log c) (fr pg : Nat) (h1 : fr < 4294967296) (h2 : pg < 4294967296) (hf : fr = 0 ∨ 64 + 1028 * fr ≤ log.length) : TP (onL (16 + 24 * (1 - c.slot)) (txtB (nxN c.number) fr pg) false log) (flC c fr pg) := by
  have hs := h.slot
  have hn := h.number
  have ht := txtB_size (nxN c.number) fr pg
  have hlen : (onL (16 + 24 * (1 - c.slot)) (txtB (nxN c.number) fr pg) false log).length = max log.length (16 + 24 * (1 - c.slot) + 24) := by rw [onL_len, ht]; rfl
  have hL := h.len
  have e1 : 16 + 24 * (1 - c.slot) + 24 = 16 + 24 * (1 - c.slot) + (txtB (nxN c.number) fr pg).size := by rw [ht]
  refine ⟨by rw [hlen]; omega, by rw [mark_wr (by omega)]; exact h.mark, by show 1 - c.slot ≤ 1; omega, by show 1 ≤ c.number % 3 + 1 ∧ c.number % 3 + 1 ≤ 3; omega, h1, h2, ?_, ?_, .inr ?_⟩
  · show (headP _).extract (16 + 24 * (1 - c.slot)) (16 + 24 * (1 - c.slot) + 24) = _
    rw [e1]
    exact wr_in (by omega)
  · show fr = 0 ∨ 64 + 1028 * fr ≤ _
    rw [hlen]; omega
  · show nxN (numB _ (16 + 24 * (1 - (1 - c.slot)) + 12)) = nxN c.number
    rw [show 1 - (1 - c.slot) = c.slot by omega, wr_num (by omega) (by rw [ht]; omega), h.second]
/- half of it is written -/
theorem TP.half {log : List UInt8} {c : Cm} (h : TP log c) (t : ByteArray) (ht : t.size = 12) : TP (onL (16 + 24 * (1 - c.slot)) t false log) c := by
  have hs := h.slot
  have hlen : (onL (16 + 24 * (1 - c.slot)) t false log).length = max log.length (16 + 24 * (1 - c.slot) + 12) := by rw [onL_len, ht]; rfl
  have hL := h.len
  have hf := h.fits
  refine ⟨by rw [hlen]; omega, by rw [mark_wr (by omega)]; exact h.mark, hs, h.number, h.frames, h.pages, ?_, by rw [hlen]; omega, ?_⟩
  · rw [wr_cut (by omega) (by rw [ht]; omega)]
    exact h.text
  · rw [wr_num (by omega) (by rw [ht]; omega)]
    exact h.other
end Go.Proofs.Ytfjkockcgddgbaa
