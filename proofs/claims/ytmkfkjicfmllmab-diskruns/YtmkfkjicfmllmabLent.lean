/- The contract of relstorelaw.lent: a new list with two marks behind it. -/
import Derived.Test.YtmkfkjicfmllmabRows1
import Derived.Deep.AppendLies
namespace Go.Proofs.Ytmkfkjicfmllmab
open Go.RowKit
attribute [local go_sem ↓] Go.wp_at_zero Go.wp_at_succ

def three (K N : Nat → Int) (S : Nat → ByteArray) (i : Nat) : List Value := [.int .i64 (K i), .int .i64 (N i), .string (S i)]
def cellsF (n : Nat) (K N : Nat → Int) (S : Nat → ByteArray) : List Value := (List.range n).flatMap (three K N S)
theorem cellsF_succ (n : Nat) (K N : Nat → Int) (S : Nat → ByteArray) : cellsF (n + 1) K N S = cellsF n K N S ++ three K N S n := by
  simp [cellsF, List.range_succ, List.flatMap_append]
theorem cellsF_len (n : Nat) (K N : Nat → Int) (S : Nat → ByteArray) : (cellsF n K N S).length = n * 3 := by
  induction n with
  | zero => rfl
  | succ n ih => rw [cellsF_succ, List.length_append, ih]; simp [three]; omega
theorem cellsF_get {n : Nat} {K N : Nat → Int} {S : Nat → ByteArray} : ∀ {i r : Nat}, i < n → r < 3 → (cellsF n K N S)[i * 3 + r]? = (three K N S i)[r]? := by
  induction n with
  | zero => intro i r h; omega
  | succ n ih =>
    intro i r hi hr
    rw [cellsF_succ]
    rcases Nat.lt_or_ge i n with h | h
    · rw [List.getElem?_append_left (by rw [cellsF_len]; omega), ih h hr]
    · have : i = n := by omega
      subst this
      rw [List.getElem?_append_right (by rw [cellsF_len]; omega), cellsF_len]
      congr 1; omega
theorem cellsF_one (n : Nat) (K N : Nat → Int) (S : Nat → ByteArray) : ∀ u ∈ cellsF n K N S, u.oneCell' = true := by
  intro u hu
  obtain ⟨i, _, hi⟩ := List.mem_flatMap.1 hu
  simp [three] at hi
  rcases hi with rfl | rfl | rfl <;> rfl
theorem add_none (b off j : Nat) : (⟨b, off, none⟩ : Addr).add j = ⟨b, off + j, none⟩ := by
  unfold Addr.add
  by_cases h : j = 0 <;> simp [h]
theorem Lies.news {w : World} {b off n : Nat} {K N : Nat → Int} {S : Nat → ByteArray} (h : Lies w b off n K N S) : ∀ j u, (cellsF n K N S)[j]? = some u → w.cell? ((⟨b, off, none⟩ : Addr).add j) = some u := by
  intro j u hj
  have hlt : j < n * 3 := by
    have := (List.getElem?_eq_some_iff.1 hj).1
    rwa [cellsF_len] at this
  have hi : j / 3 < n := by omega
  have hr : j % 3 < 3 := by omega
  have ej : j = j / 3 * 3 + j % 3 := by omega
  rw [ej, cellsF_get hi hr] at hj
  rw [add_none, ej]
  obtain ⟨c0, c1, c2⟩ := h (j / 3) hi
  rcases (show j % 3 = 0 ∨ j % 3 = 1 ∨ j % 3 = 2 by omega) with e | e | e
  · rw [e] at hj ⊢; simp [three] at hj; rw [← hj]; simpa using c0
  · rw [e] at hj ⊢; simp [three] at hj; rw [← hj]; exact c1
  · rw [e] at hj ⊢; simp [three] at hj; rw [← hj]; exact c2
theorem lies_of_cells {w : World} {g n : Nat} {K N : Nat → Int} {S : Nat → ByteArray} {xs : List Value} (h : ∀ j u, (cellsF n K N S ++ xs)[j]? = some u → w.cell? ((⟨g, 0, none⟩ : Addr).add j) = some u) : Lies w g 0 n K N S := by
  intro i hi
  have get : ∀ r u, r < 3 → (three K N S i)[r]? = some u → w.cell? ⟨g, 0 + i * 3 + r, none⟩ = some u := fun r u hr hu => by
    have := h (i * 3 + r) u (by rw [List.getElem?_append_left (by rw [cellsF_len]; omega), cellsF_get hi hr, hu])
    rw [add_none] at this
    rw [Nat.add_assoc]; exact this
  exact ⟨get 0 _ (by decide) rfl, get 1 _ (by decide) rfl, get 2 _ (by decide) rfl⟩
def marks : List Value := [.int .i64 9, .int .i64 7, .string ⟨#[]⟩, .int .i64 9, .int .i64 8, .string ⟨#[]⟩]
def MarksAt (w : World) (g n : Nat) : Prop := w.cell? ⟨g, n * 3, none⟩ = some (.int .i64 9) ∧ w.cell? ⟨g, n * 3 + 1, none⟩ = some (.int .i64 7) ∧ w.cell? ⟨g, n * 3 + 1 + 1, none⟩ = some (.string ⟨#[]⟩) ∧
  w.cell? ⟨g, (n + 1) * 3, none⟩ = some (.int .i64 9) ∧ w.cell? ⟨g, (n + 1) * 3 + 1, none⟩ = some (.int .i64 8) ∧ w.cell? ⟨g, (n + 1) * 3 + 1 + 1, none⟩ = some (.string ⟨#[]⟩)
theorem marks_of_cells {w : World} {g n : Nat} {K N : Nat → Int} {S : Nat → ByteArray} (h : ∀ j u, (cellsF n K N S ++ marks)[j]? = some u → w.cell? ((⟨g, 0, none⟩ : Addr).add j) = some u) : MarksAt w g n := by
  have get : ∀ r u, marks[r]? = some u → w.cell? ⟨g, n * 3 + r, none⟩ = some u := fun r u hu => by
    have := h (n * 3 + r) u (by rw [List.getElem?_append_right (by rw [cellsF_len]; omega), cellsF_len, Nat.add_sub_cancel_left, hu])
    rw [add_none, Nat.zero_add] at this
    exact this
  refine ⟨get 0 _ rfl, get 1 _ rfl, get 2 _ rfl, ?_, ?_, ?_⟩
  · rw [show (n + 1) * 3 = n * 3 + 3 by omega]; exact get 3 _ rfl
  · rw [show (n + 1) * 3 + 1 = n * 3 + 4 by omega]; exact get 4 _ rfl
  · rw [show (n + 1) * 3 + 1 + 1 = n * 3 + 5 by omega]; exact get 5 _ rfl

theorem infoV : (Try.prog.info? 28).map (fun i => (i.zero, i.size, i.bytes)) = some (some (.agg #[.int .i64 (0), .int .i64 (0), .string (⟨#[]⟩)]), 3, 32) := by kernel_rfl

theorem marks_one : ∀ u ∈ marks, u.oneCell' = true := by decide
theorem newsMarks (w : World) : ∀ j u, marks[j]? = some u → (w.alloc (.cells #[.int .i64 9, .int .i64 7, .string ⟨#[]⟩, .int .i64 9, .int .i64 8, .string ⟨#[]⟩] 28)).cell? ((⟨w.heap.size, 0, none⟩ : Addr).add j) = some u := by
  intro j u hj
  rw [add_none]
  match j, hj with
  | 0, h => cases h; go_simp
  | 1, h => cases h; go_simp
  | 2, h => cases h; go_simp
  | 3, h => cases h; go_simp
  | 4, h => cases h; go_simp
  | 5, h => cases h; go_simp
  | j + 6, h => simp [marks] at h

end Go.Proofs.Ytmkfkjicfmllmab
