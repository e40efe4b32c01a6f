/- relstoreref's disk: Read, Size -/
import Derived.Test.YtfjkockcgddgbaaGreatDskV
namespace Go.Proofs.YtfjkockcgddgbaaGreat
open Go.RowKit Go.Lib
attribute [local go_sem ↓] Go.wp_at_zero Go.wp_at_succ
/- the bytes of both files as they are seen, in the places that the program's disk has them -/
def seesD (lb : Nat → List UInt8) (l0 l1 : ByteArray) (ws : List Chg) : Prop := lb 0 = foldF 0 ws (ll l0) ∧ lb 2 = foldF 1 ws (ll l1)
theorem rseen (f : Nat) (hf : f < 2) (X : World) (B D : Nat) (l0 l1 : ByteArray) (vw : Value) (ws : List Chg) (left count : Int) (down : Bool) (h : RD X B D l0 l1 vw ws left count down) (hw : ws.length ≤ 1000000) (lb : Nat → List UInt8) (hs : seesD lb l0 l1 ws) :
    Calls Tryz.prog 48 #[(.pointer (some ⟨D, 0, none⟩)), .int .i64 (f : Int)] X fun e w' => ∃ y : ByteArray, e = .returned (.string y) ∧ ll y = lb (2 * f) ∧ Below X.heap.size X w' := by
  rcases (show f = 0 ∨ f = 1 by omega) with rfl | rfl
  · exact (rseen0 X B D l0 l1 vw ws left count down h hw).mono fun e w' hh => ⟨_, hh.1, hs.1.symm, hh.2⟩
  · exact (rseen1 X B D l0 l1 vw ws left count down h hw).mono fun e w' hh => ⟨_, hh.1, hs.2.symm, hh.2⟩
theorem in_fits (f : Int) : (decide (0 ≤ f) && decide (f ≤ 1)) = fitsD f 0 0 := by
  unfold fitsD
  rw [← Bool.decide_and]
  apply decide_eq_decide.2
  omega
end Go.Proofs.YtfjkockcgddgbaaGreat
