/- a log that tells a commit, from its bytes -/
import Derived.Test.YtfjkockcgddgbaaWalP
namespace Go.Proofs.Ytfjkockcgddgbaa
theorem curP_of {log : List UInt8} {c : Cm} (hl : (40 ≤ log.length ∧ log.length ≤ 52) ∨ 64 ≤ log.length) (hm : isMark (headP log) = true) (hs : c.slot ≤ 1) (hn : 1 ≤ c.number ∧ c.number ≤ 3) (hf : c.frames < 4294967296) (hp : c.pages < 4294967296)
    (hx : (headP log).extract (16 + 24 * c.slot) (16 + 24 * c.slot + 24) = txtB c.number c.frames c.pages) (hz : c.frames = 0 ∨ 64 + 1028 * c.frames ≤ log.length) (ho : numB (headP log) (16 + 24 * (1 - c.slot) + 12) = 0 ∨ nxN (numB (headP log) (16 + 24 * (1 - c.slot) + 12)) = c.number) : CurP log c := by
  refine ⟨hl, hm, hs, hn, fun size h => told_of (by rw [headP_size]; omega) hx hn hf hp h, hz, fun size => ?_⟩
  rcases told_second (headP log) (16 + 24 * (1 - c.slot)) (1 - c.slot) size with h | ⟨h, h'⟩
  · exact .inl h
  · rcases ho with ho | ho
    · omega
    · rw [h]; exact .inr ho
end Go.Proofs.Ytfjkockcgddgbaa
