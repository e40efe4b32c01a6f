/- which commit a log tells, also a log of 40 to 52 bytes: as WalL, over the head with zeros behind it -/
import Derived.Test.YtfjkockcgddgbaaWalO
namespace Go.Proofs.Ytfjkockcgddgbaa
structure CurP (log : List UInt8) (c : Cm) : Prop where
  len : (40 ≤ log.length ∧ log.length ≤ 52) ∨ 64 ≤ log.length
  mark : isMark (headP log) = true
  slot : c.slot ≤ 1
  number : 1 ≤ c.number ∧ c.number ≤ 3
  told : ∀ size, c.frames = 0 ∨ 64 + 1028 * c.frames ≤ size → toldA (headP log) (16 + 24 * c.slot) c.slot size = c
  fits : c.frames = 0 ∨ 64 + 1028 * c.frames ≤ log.length
  other : ∀ size, (toldA (headP log) (16 + 24 * (1 - c.slot)) (1 - c.slot) size).number = 0 ∨ nxN (toldA (headP log) (16 + 24 * (1 - c.slot)) (1 - c.slot) size).number = c.number
theorem CurP.last {log : List UInt8} {c : Cm} (h : CurP log c) : lastC log = c := by
  obtain ⟨h0, h1, h2, h3, h4, h5, h6⟩ := h
  have k4 := h4 log.length h5
  have k6 := h6 log.length
  rw [pad_mark h0] at h1
  rw [pad_told h0 h2] at k4
  rw [pad_told h0 (by omega)] at k6
  unfold lastC
  rw [if_pos h1]
  obtain ⟨s, n, f, p⟩ := c
  dsimp only at *
  have hs : s = 0 ∨ s = 1 := by omega
  unfold pickC
  rcases hs with rfl | rfl
  · rw [show (16 : Nat) = 16 + 24 * 0 from rfl, k4]
    dsimp only at *
    rw [if_neg]
    intro hh
    rcases hh with hh | hh
    · omega
    · change _ = nxN n at hh
      have e : (toldA (headB log) (16 + 24 * (1 - 0)) (1 - 0) log.length).number = nxN n := hh
      unfold nxN at e k6
      omega
  · have e : toldA (headB log) 40 1 log.length = ⟨1, n, f, p⟩ := k4
    rw [e]
    refine if_pos ?_
    rcases k6 with k | k
    · exact .inl k
    · exact .inr k.symm
theorem headP_of {log log' : List UInt8} {a : Nat} (ha : 64 ≤ a) (h : (fil log' a).take a = (fil log a).take a) : headP log' = headP log := by
  unfold headP
  have : (fil log' 64).take 64 = (fil log 64).take 64 := by
    have := congrArg (List.take 64) h
    rw [List.take_take, List.take_take, Nat.min_eq_left ha, fil_take ha, fil_take ha] at this
    exact this
  rw [this]
theorem CurP.keep {log log' : List UInt8} {c : Cm} {a : Nat} (h : CurP log c) (ha : 64 ≤ a) (he : (fil log' a).take a = (fil log a).take a) (hl : (40 ≤ log'.length ∧ log'.length ≤ 52) ∨ 64 ≤ log'.length) (hf : c.frames = 0 ∨ 64 + 1028 * c.frames ≤ log'.length) : CurP log' c := by
  have e := headP_of ha he
  exact ⟨hl, by rw [e]; exact h.mark, h.slot, h.number, by rw [e]; exact h.told, hf, by rw [e]; exact h.other⟩
theorem CurP.crash {S : DS} {c : Cm} {a : Nat} (h : CurP (S.lb 3) c) (hw : Hi a S.ws) (fa : Nat → Int) (h64 : 64 ≤ a) : CurP ((crD fa S).lb 2) c ∧ lastC ((crD fa S).lb 2) = c := by
  obtain ⟨_, _, k2, _, k4, k5⟩ := crD_pad hw fa
  have hl : (40 ≤ ((crD fa S).lb 2).length ∧ ((crD fa S).lb 2).length ≤ 52) ∨ 64 ≤ ((crD fa S).lb 2).length := by
    rcases k5 with k | k
    · rw [k]; exact h.len
    · exact .inr (Nat.le_trans h64 k)
  have := h.keep h64 k2 hl (h.fits.imp id fun f => Nat.le_trans f k4)
  exact ⟨this, this.last⟩
end Go.Proofs.Ytfjkockcgddgbaa
