/- relstorelaw.spoil; sameValues of any two lists that are the same -/
import Derived.Test.YtmkfkjicfmllmabUnpP
import Derived.Deep.QuietTactic
import Derived.BigQuiet
import Derived.Test.YtmkfkjicfmllmabLent
namespace Go.Proofs.Ytmkfkjicfmllmab
open Go.RowKit Go.Lib
attribute [local go_sem ↓] Go.wp_at_zero Go.wp_at_succ
/- all blocks but one are as they were -/
def But (w X : World) (o : Option Nat) : Prop := w.grownBy X o
theorem But.refl (w : World) (o : Option Nat) : But w w o := ⟨rfl, rfl, rfl, Nat.le_refl _, fun _ _ _ => rfl⟩
theorem But.trans {w X Y : World} {o : Option Nat} (h : But w X o) (hg : But X Y o) : But w Y o :=
  ⟨by rw [hg.os, h.os], by rw [hg.tape, h.tape], by rw [hg.output, h.output], Nat.le_trans h.size hg.size, fun b hl hn => by rw [hg.block b (Nat.lt_of_lt_of_le hl h.size) hn]; exact h.block b hl hn⟩
theorem But.set {w X : World} {g : Nat} (h : But w X (some g)) (j : Nat) (u : Value) : But w (X.setCell ⟨g, j, none⟩ u) (some g) :=
  h.trans ⟨rfl, rfl, rfl, Nat.le_of_eq (by simp), fun b _ hn => Below.heap_setCell _ _ _ b (fun e => hn (by rw [e]))⟩
def nines : List Value := [.int .i64 9, .int .i64 0, .string ⟨#[]⟩, .int .i64 9, .int .i64 0, .string ⟨#[]⟩]
theorem nines_one : ∀ u ∈ nines, u.oneCell' = true := by decide
theorem newsNines (w : World) : ∀ j u, nines[j]? = some u → (w.alloc (.cells #[.int .i64 9, .int .i64 0, .string ⟨#[]⟩, .int .i64 9, .int .i64 0, .string ⟨#[]⟩] 28)).cell? ((⟨w.heap.size, 0, none⟩ : Addr).add j) = some u := by
  intro j u hj
  rw [add_none]
  match j, hj with
  | 0, h => cases h; go_simp
  | 1, h => cases h; go_simp
  | 2, h => cases h; go_simp
  | 3, h => cases h; go_simp
  | 4, h => cases h; go_simp
  | 5, h => cases h; go_simp
  | j + 6, h => simp [nines] at h
end Go.Proofs.Ytmkfkjicfmllmab
