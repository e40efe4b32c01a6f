/- The contract of relstorelaw.lent: a new list with two marks behind it. -/
import Derived.Test.YthimnpobcfkghaaRows1
import Derived.Deep.AppendLies
namespace Go.Proofs.Ythimnpobcfkghaa
open Go.RowKit
attribute [local go_sem ↓] Go.wp_at_zero Go.wp_at_succ

def three (K N : Nat → Int) (S : Nat → ByteArray) (i : Nat) : List Value := [.int .i64 (K i), .int .i64 (N i), .string (S i)]
def cellsF (n : Nat) (K N : Nat → Int) (S : Nat → ByteArray) : List Value := (List.range n).flatMap (three K N S)
theorem cellsF_succ (n : Nat) (K N : Nat → Int) (S : Nat → ByteArray) : cellsF (n + 1) K N S = cellsF n K N S ++ three K N S n := by
  simp [cellsF, List.range_succ, List.flatMap_append]
theorem cellsF_len (n : Nat) (K N : Nat → Int) (S : Nat → ByteArray) : (cellsF n K N S).length = n * 3 := by
  induction n with
  | zero => rfl
  | succ n ih => rw [cellsF_succ, List.length_append, ih]; simp [three]; omega
theorem cellsF_get {n : Nat} {K N : Nat → Int} {S : Nat → ByteArray} : ∀ {i r : Nat}, i < n → r < 3 → (cellsF n K N S)[i * 3 + r]? = (three K N S i)[r]? := by
  induction n with
  | zero => intro i r h; omega
  | succ n ih =>
    intro i r hi hr
    rw [cellsF_succ]
    rcases Nat.lt_or_ge i n with h | h
    · rw [List.getElem?_append_left (by rw [cellsF_len]; omega), ih h hr]
    · have : i = n := by omega
      subst this
      rw [List.getElem?_append_right (by rw [cellsF_len]; omega), cellsF_len]
      congr 1; omega
theorem cellsF_one (n : Nat) (K N : Nat → Int) (S : Nat → ByteArray) : ∀ u ∈ cellsF n K N S, u.oneCell' = true := by
  intro u hu
  obtain ⟨i, _, hi⟩ := List.mem_flatMap.1 hu
  simp [three] at hi
  rcases hi with rfl | rfl | rfl <;> rfl
theorem add_none (b off j : Nat) : (⟨b, off, none⟩ : Addr).add j = ⟨b, off + j, none⟩ := by
  unfold Addr.add
  by_cases h : j = 0 <;> simp [h]
theorem Lies.news {w : World} {b off n : Nat} {K N : Nat → Int} {S : Nat → ByteArray} (h : Lies w b off n K N S) : ∀ j u, (cellsF n K N S)[j]? = some u → w.cell? ((⟨b, off, none⟩ : Addr).add j) = some u := by
  intro j u hj
  have hlt : j < n * 3 := by
    have := (List.getElem?_eq_some_iff.1 hj).1
    rwa [cellsF_len] at this
  have hi : j / 3 < n := by omega
  have hr : j % 3 < 3 := by omega
  have ej : j = j / 3 * 3 + j % 3 := by omega
  rw [ej, cellsF_get hi hr] at hj
  rw [add_none, ej]
  obtain ⟨c0, c1, c2⟩ := h (j / 3) hi
  rcases (show j % 3 = 0 ∨ j % 3 = 1 ∨ j % 3 = 2 by omega) with e | e | e
  · rw [e] at hj ⊢; simp [three] at hj; rw [← hj]; simpa using c0
  · rw [e] at hj ⊢; simp [three] at hj; rw [← hj]; exact c1
  · rw [e] at hj ⊢; simp [three] at hj; rw [← hj]; exact c2
theorem lies_of_cells {w : World} {g n : Nat} {K N : Nat → Int} {S : Nat → ByteArray} {xs : List Value} (h : ∀ j u, (cellsF n K N S ++ xs)[j]? = some u → w.cell? ((⟨g, 0, none⟩ : Addr).add j) = some u) : Lies w g 0 n K N S := by
  intro i hi
  have get : ∀ r u, r < 3 → (three K N S i)[r]? = some u → w.cell? ⟨g, 0 + i * 3 + r, none⟩ = some u := fun r u hr hu => by
    have := h (i * 3 + r) u (by rw [List.getElem?_append_left (by rw [cellsF_len]; omega), cellsF_get hi hr, hu])
    rw [add_none] at this
    rw [Nat.add_assoc]; exact this
  exact ⟨get 0 _ (by decide) rfl, get 1 _ (by decide) rfl, get 2 _ (by decide) rfl⟩
def marks : List Value := [.int .i64 9, .int .i64 7, .string ⟨#[]⟩, .int .i64 9, .int .i64 8, .string ⟨#[]⟩]
def MarksAt (w : World) (g n : Nat) : Prop := w.cell? ⟨g, n * 3, none⟩ = some (.int .i64 9) ∧ w.cell? ⟨g, n * 3 + 1, none⟩ = some (.int .i64 7) ∧ w.cell? ⟨g, n * 3 + 1 + 1, none⟩ = some (.string ⟨#[]⟩) ∧
  w.cell? ⟨g, (n + 1) * 3, none⟩ = some (.int .i64 9) ∧ w.cell? ⟨g, (n + 1) * 3 + 1, none⟩ = some (.int .i64 8) ∧ w.cell? ⟨g, (n + 1) * 3 + 1 + 1, none⟩ = some (.string ⟨#[]⟩)
theorem marks_of_cells {w : World} {g n : Nat} {K N : Nat → Int} {S : Nat → ByteArray} (h : ∀ j u, (cellsF n K N S ++ marks)[j]? = some u → w.cell? ((⟨g, 0, none⟩ : Addr).add j) = some u) : MarksAt w g n := by
  have get : ∀ r u, marks[r]? = some u → w.cell? ⟨g, n * 3 + r, none⟩ = some u := fun r u hu => by
    have := h (n * 3 + r) u (by rw [List.getElem?_append_right (by rw [cellsF_len]; omega), cellsF_len, Nat.add_sub_cancel_left, hu])
    rw [add_none, Nat.zero_add] at this
    exact this
  refine ⟨get 0 _ rfl, get 1 _ rfl, get 2 _ rfl, ?_, ?_, ?_⟩
  · rw [show (n + 1) * 3 = n * 3 + 3 by omega]; exact get 3 _ rfl
  · rw [show (n + 1) * 3 + 1 = n * 3 + 4 by omega]; exact get 4 _ rfl
  · rw [show (n + 1) * 3 + 1 + 1 = n * 3 + 5 by omega]; exact get 5 _ rfl

theorem infoV : (Try.prog.info? 42).map (fun i => (i.zero, i.size, i.bytes)) = some (some (.agg #[.int .i64 (0), .int .i64 (0), .string (⟨#[]⟩)]), 3, 32) := by kernel_rfl

theorem marks_one : ∀ u ∈ marks, u.oneCell' = true := by decide
theorem newsMarks (w : World) : ∀ j u, marks[j]? = some u → (w.alloc (.cells #[.int .i64 9, .int .i64 7, .string ⟨#[]⟩, .int .i64 9, .int .i64 8, .string ⟨#[]⟩] 42)).cell? ((⟨w.heap.size, 0, none⟩ : Addr).add j) = some u := by
  intro j u hj
  rw [add_none]
  match j, hj with
  | 0, h => cases h; go_simp
  | 1, h => cases h; go_simp
  | 2, h => cases h; go_simp
  | 3, h => cases h; go_simp
  | 4, h => cases h; go_simp
  | 5, h => cases h; go_simp
  | j + 6, h => simp [marks] at h

set_option maxHeartbeats 600000 in
theorem clent1 (b off n cap : Nat) (K N : Nat → Int) (S : Nat → ByteArray) (w : World) (hA : Lies w b off n K N S) (hp : 0 < n) (hn : n ≤ 4398046511104) (hby : (n + 2) * 32 ≤ 140737488355328) :
    Calls Try.prog 9 #[.slice (some ⟨b, off, none⟩) n cap] w fun e w' => ∃ g cap', e = .returned (.slice (some ⟨g, 0, none⟩) (n + 2) cap') ∧ w.heap.size ≤ g ∧ g < w'.heap.size ∧ n + 2 ≤ cap' ∧ Lies w' g 0 n K N S ∧ MarksAt w' g n ∧ Below w.heap.size w w' := by
  obtain ⟨i0, hi, hz0, hz1, hz2⟩ := info_parts infoV
  have HA : Hid (Lies w b off n K N S) := hA
  clear hA
  go_enter Try.func9, Try.ntmps9
  go_wp2_with (at_builtin; refine wpList_append_lies _ rfl _ _ _ rfl w.heap.size 42 i0 (.agg #[.int .i64 (0), .int .i64 (0), .string (⟨#[]⟩)]) 3 32 Try.underlying22 hi hz0 hz1 hz2 rfl (by decide) (.slice none 0 0) 0 [] rfl (World.ownsRow_nil _ _ _ _) ⟨b, off, none⟩ n cap (cellsF n K N S) rfl (cellsF_len _ _ _ _) HA.out.news (cellsF_one _ _ _ _) hp ?h1 ?h2 ?h3 w.heap.size rfl ?_)
  case h1 => unfold maxLen; omega
  case h2 => omega
  case h3 => exact Nat.le_refl _
  intro g cap1 w1 hown hgrow hat hlt
  have hg1 : w.heap.size ≤ g := by
    rcases hat with h | h
    · cases h
    · omega
  have hs1 : w.heap.size ≤ w1.heap.size := hgrow.size
  have HB1 : Hid (Below w.heap.size w w1) := (Below.refl _ _).grown hgrow (Nat.le_refl _) (fun k h => by cases h)
  clear hat hgrow hlt
  have hn1 := newsMarks w1
  go_wp2_with (at_builtin; refine wpList_append_lies _ rfl _ _ _ rfl w.heap.size 42 i0 (.agg #[.int .i64 (0), .int .i64 (0), .string (⟨#[]⟩)]) 3 32 Try.underlying22 hi hz0 hz1 hz2 rfl (by decide) (.slice (some ⟨g, 0, none⟩) n cap1) n (cellsF n K N S) rfl (hown.alloc _) ⟨w1.heap.size, 0, none⟩ 2 2 marks rfl rfl hn1 marks_one (by decide) ?g1 ?g2 ?g3 (w1.heap.size + 1) (by simp) ?_)
  case g1 => unfold maxLen; omega
  case g2 => omega
  case g3 => simp; omega
  intro g' cap2 w2 hown2 hgrow2 hat2 hlt2
  have hc2 := hown2.cells (g := g') rfl
  have hcap : n + 2 ≤ cap2 := by
    rcases hown2.2 with ⟨h, _⟩ | ⟨g3, cap3, cur, hv, _, _, hle, _⟩
    · cases h
    · injection hv with _ _ h3
      omega
  have hg2 : w.heap.size ≤ g' := by
    rcases hat2 with h | h
    · injection h with h; have h' : g = g' := h; omega
    · omega
  have HB2 : Hid (Below w.heap.size w w2) := (HB1.out.alloc hs1 _).grown hgrow2 (by simp; omega) (fun k h => by injection h with h; have h' : g = k := h; omega)
  clear hown hown2 hgrow2 hat2
  go_wp2
  go_ret
  exact ⟨g', cap2, rfl, hg2, hlt2, hcap, lies_of_cells hc2, marks_of_cells hc2, HB2.out⟩

set_option maxHeartbeats 600000 in
theorem clent0 (a : Option Addr) (cap : Nat) (K N : Nat → Int) (S : Nat → ByteArray) (w : World) :
    Calls Try.prog 9 #[.slice a 0 cap] w fun e w' => ∃ g cap', e = .returned (.slice (some ⟨g, 0, none⟩) (0 + 2) cap') ∧ w.heap.size ≤ g ∧ g < w'.heap.size ∧ 0 + 2 ≤ cap' ∧ Lies w' g 0 0 K N S ∧ MarksAt w' g 0 ∧ Below w.heap.size w w' := by
  obtain ⟨i0, hi, hz0, hz1, hz2⟩ := info_parts infoV
  have hn1 := newsMarks w
  go_enter Try.func9, Try.ntmps9
  cases a with
  | none =>
    go_wp2_with (at_builtin; refine wpList_append_lies _ rfl _ _ _ rfl w.heap.size 42 i0 (.agg #[.int .i64 (0), .int .i64 (0), .string (⟨#[]⟩)]) 3 32 Try.underlying22 hi hz0 hz1 hz2 rfl (by decide) (.slice none 0 0) 0 [] rfl (World.ownsRow_nil _ _ _ _) ⟨w.heap.size, 0, none⟩ 2 2 marks rfl rfl hn1 marks_one (by decide) ?g1 ?g2 ?g3 (w.heap.size + 1) (by simp) ?_)
    case g1 => decide
    case g2 => decide
    case g3 => simp
    intro g' cap2 w2 hown2 hgrow2 hat2 hlt2
    have hc2 := hown2.cells (g := g') rfl
    have hcap : 0 + 2 ≤ cap2 := by
      rcases hown2.2 with ⟨h, _⟩ | ⟨g3, cap3, cur, hv, _, _, hle, _⟩
      · cases h
      · injection hv with _ _ h3
        omega
    have hg2 : w.heap.size ≤ g' := by
      rcases hat2 with h | h
      · cases h
      · omega
    have HB2 : Hid (Below w.heap.size w w2) := (((Below.refl _ _).alloc (Nat.le_refl _) _)).grown hgrow2 (by simp) (fun k h => by cases h)
    clear hown2 hgrow2 hat2
    go_wp2
    go_ret
    exact ⟨g', cap2, rfl, hg2, hlt2, hcap, (fun i h => absurd h (by omega)), marks_of_cells (n := 0) (K := K) (N := N) (S := S) hc2, HB2.out⟩
  | some ad =>
    go_wp2_with (at_builtin; refine wpList_append_lies _ rfl _ _ _ rfl w.heap.size 42 i0 (.agg #[.int .i64 (0), .int .i64 (0), .string (⟨#[]⟩)]) 3 32 Try.underlying22 hi hz0 hz1 hz2 rfl (by decide) (.slice none 0 0) 0 [] rfl (World.ownsRow_nil _ _ _ _) ⟨w.heap.size, 0, none⟩ 2 2 marks rfl rfl hn1 marks_one (by decide) ?g1 ?g2 ?g3 (w.heap.size + 1) (by simp) ?_)
    case g1 => decide
    case g2 => decide
    case g3 => simp
    intro g' cap2 w2 hown2 hgrow2 hat2 hlt2
    have hc2 := hown2.cells (g := g') rfl
    have hcap : 0 + 2 ≤ cap2 := by
      rcases hown2.2 with ⟨h, _⟩ | ⟨g3, cap3, cur, hv, _, _, hle, _⟩
      · cases h
      · injection hv with _ _ h3
        omega
    have hg2 : w.heap.size ≤ g' := by
      rcases hat2 with h | h
      · cases h
      · omega
    have HB2 : Hid (Below w.heap.size w w2) := (((Below.refl _ _).alloc (Nat.le_refl _) _)).grown hgrow2 (by simp) (fun k h => by cases h)
    clear hown2 hgrow2 hat2
    go_wp2
    go_ret
    exact ⟨g', cap2, rfl, hg2, hlt2, hcap, (fun i h => absurd h (by omega)), marks_of_cells (n := 0) (K := K) (N := N) (S := S) hc2, HB2.out⟩

theorem clent (a : Option Addr) (n cap : Nat) (K N : Nat → Int) (S : Nat → ByteArray) (w : World) (hA : LiesA w a n K N S) (hn : n ≤ 4398046511104) (hby : (n + 2) * 32 ≤ 140737488355328) :
    Calls Try.prog 9 #[.slice a n cap] w fun e w' => ∃ g cap', e = .returned (.slice (some ⟨g, 0, none⟩) (n + 2) cap') ∧ w.heap.size ≤ g ∧ g < w'.heap.size ∧ n + 2 ≤ cap' ∧ Lies w' g 0 n K N S ∧ MarksAt w' g n ∧ Below w.heap.size w w' := by
  by_cases h0 : n = 0
  · subst h0
    exact clent0 a cap K N S w
  · rcases hA with h | ⟨b, off, rfl, h⟩
    · exact absurd h h0
    · exact clent1 b off n cap K N S w h (by omega) hn hby
end Go.Proofs.Ythimnpobcfkghaa
