/- The contract of page.cellsOf: the cells of any 1,024 bytes. -/
import Derived.Test.YthimnpobcfkghaaPage4
import Derived.Deep.AppendLies
import Derived.Laws.OwnMore
namespace Go.Proofs.Ythimnpobcfkghaa
open Go.RowKit
attribute [local go_sem ↓] Go.wp_at_zero Go.wp_at_succ

/- the cells from the i-th on, the one before ending at e -/
def rd (s : ByteArray) : Nat → Nat → Nat → List ByteArray
  | 0, _, _ => []
  | f + 1, i, e => if e < two s (12 + 2 * i) + 2 ∨ two s (12 + 2 * i) + 2 + two s (two s (12 + 2 * i)) ≠ e then [] else s.extract (two s (12 + 2 * i) + 2) e :: rd s f (i + 1) (two s (12 + 2 * i))
def many (s : ByteArray) : Nat := min (two s 6) 253

theorem infoS : (Try.prog.info? 9).map (fun i => (i.zero, i.size, i.bytes)) = some (some (.string ⟨#[]⟩), 1, 16) := by kernel_rfl
def valsS (L : List ByteArray) : List Value := L.map (.string ·)
theorem valsS_app (L : List ByteArray) (x : ByteArray) : valsS L ++ [.string x] = valsS (L ++ [x]) := by simp [valsS]
theorem rd_len (s : ByteArray) : ∀ f i e, (rd s f i e).length ≤ f
  | 0, _, _ => Nat.le_refl _
  | f + 1, i, e => by
    unfold rd
    split
    · exact Nat.zero_le _
    · have := rd_len s f (i + 1) (two s (12 + 2 * i))
      simp only [List.length_cons]
      omega
theorem rd_stop {s : ByteArray} {f i e : Nat} (h : e < two s (12 + 2 * i) + 2 ∨ two s (12 + 2 * i) + 2 + two s (two s (12 + 2 * i)) ≠ e) : rd s f i e = [] := by
  cases f with
  | zero => rfl
  | succ f => unfold rd; rw [if_pos h]
theorem rd_go {s : ByteArray} {f i e : Nat} (h : ¬ (e < two s (12 + 2 * i) + 2 ∨ two s (12 + 2 * i) + 2 + two s (two s (12 + 2 * i)) ≠ e)) : rd s (f + 1) i e = s.extract (two s (12 + 2 * i) + 2) e :: rd s f (i + 1) (two s (12 + 2 * i)) := by
  rw [rd, if_neg h]
/- what the loop keeps: the cells so far and those to come are all -/
structure Ro (s : ByteArray) (M i e : Nat) (xs : List ByteArray) : Prop where
  len : xs.length = i
  le : i ≤ M
  end' : e ≤ 1024
  all : xs ++ rd s (M - i) i e = rd s M 0 1024
theorem Ro.start (s : ByteArray) (M : Nat) : Ro s M 0 1024 [] := ⟨rfl, Nat.zero_le _, Nat.le_refl _, rfl⟩
theorem Ro.step {s : ByteArray} {M i e : Nat} {xs : List ByteArray} (h : Ro s M i e xs) (hi : i < M) (hg : ¬ (e < two s (12 + 2 * i) + 2 ∨ two s (12 + 2 * i) + 2 + two s (two s (12 + 2 * i)) ≠ e)) : Ro s M (i + 1) (two s (12 + 2 * i)) (xs ++ [s.extract (two s (12 + 2 * i) + 2) e]) := by
  refine ⟨by simp [h.len], hi, by have := h.end'; omega, ?_⟩
  rw [← h.all, show M - i = (M - (i + 1)) + 1 by omega, rd_go hg]
  simp
theorem Ro.stop {s : ByteArray} {M i e : Nat} {xs : List ByteArray} (h : Ro s M i e xs) (hg : i = M ∨ (e < two s (12 + 2 * i) + 2 ∨ two s (12 + 2 * i) + 2 + two s (two s (12 + 2 * i)) ≠ e)) : xs = rd s M 0 1024 := by
  have := h.all
  rcases hg with rfl | hg
  · rw [Nat.sub_self] at this
    simpa [rd] using this
  · rw [rd_stop hg] at this
    simpa using this

set_option maxRecDepth 20000 in
set_option maxHeartbeats 1000000 in
theorem ccells_a (s : ByteArray) (w : World) (hs : s.size = 1024) (hm : two s 6 ≤ 253) :
    Calls Try.prog 57 #[.string s] w fun e w' => ∃ v, e = .returned v ∧ w'.ownsRow w.heap.size 9 1 v (rd s (two s 6) 0 1024).length (valsS (rd s (two s 6) 0 1024)) ∧ Below w.heap.size w w' := by
  obtain ⟨i0, hi, hz0, hz1, hz2⟩ := info_parts infoS
  have hm' : (two s 6 : Int) ≤ 253 := by omega
  go_enter Try.func57, Try.ntmps57
  go_wp2_with fail
  refine (ctwo s 6 _ (by omega) (by omega)).mono ?_
  rintro e w1 ⟨rfl, nq, rfl⟩
  obtain ⟨w2, hmk, hown, hgr⟩ := run_make_own (P := Try.prog) (w := w.drewN nq) w.heap.size 43 9 i0 (.string ⟨#[]⟩) 1 Try.underlying43 hi hz0 hz1 .i64 .i64 (two s 6) (by rw [hz2]; omega) (by unfold maxLen; omega) (by simp)
  have HO : Hid (w2.ownsRow w.heap.size 9 1 (.slice (some ⟨w.heap.size, 0, none⟩) 0 (two s 6)) 0 (valsS [])) := (by simpa [valsS] using hown : w2.ownsRow w.heap.size 9 1 (.slice (some ⟨w.heap.size, 0, none⟩) 0 (two s 6)) 0 (valsS []))
  have HB : Hid (Below w.heap.size w w2) := (below_drewN (Below.refl _ _) nq).grown hgr (by simp) (fun k hk => by cases hk)
  skip
  clear hown hgr
  go_wp2_with fail
  go_loopw [4, 5, 16] (fun v x y X => ∃ (i e : Nat) (xs : List ByteArray), y = .int .i64 i ∧ x = .int .i64 e ∧ Hid (Ro s (two s 6) i e xs) ∧ Hid (X.ownsRow w.heap.size 9 1 v i (valsS xs)) ∧ Hid (Below w.heap.size w X)) (fun _ _ y _ => two s 6 - (intOf y).toNat)
  case atStart => exact ⟨0, 1024, [], rfl, rfl, Ro.start s _, HO.out, HB.out⟩
  case round =>
    obtain ⟨i, e, xs, rfl, rfl, HR, HO, HB⟩ := hrel
    have e0 : e ≤ 1024 := HR.out.end'
    have i1 := HR.out.le
    have fin : Hid (xs = rd s (two s 6) 0 1024 → wr.ownsRow w.heap.size 9 1 u4 (rd s (two s 6) 0 1024).length (valsS (rd s (two s 6) 0 1024))) := fun h => by
      have hl := HR.out.len
      subst hl
      rw [← h]
      exact HO.out
    by_cases h0 : i < two s 6
    · have h1 : (i : Int) < (two s 6 : Int) := by omega
      have HI : Hid (12 + 2 * (i : Int) = ((12 + 2 * i : Nat) : Int)) := (by omega : 12 + 2 * (i : Int) = ((12 + 2 * i : Nat) : Int))
      go_wp2_with fail
      rw [HI.out]
      refine (ctwo s (12 + 2 * i) _ (by omega) (by omega)).mono ?_
      rintro e1 w3 ⟨rfl, nq3, rfl⟩
      have l0 := two_lt s (12 + 2 * i)
      have HB3 : Hid (Below w.heap.size w (wr.drewN nq3)) := below_drewN HB.out _
      have HO3 : Hid ((wr.drewN nq3).ownsRow w.heap.size 9 1 u4 i (valsS xs)) := HO.out
      generalize hA : two s (12 + 2 * i) = A at *
      have HA : Hid (two s (12 + 2 * i) = A) := hA
      clear hA
      by_cases h2 : e < A + 2
      · have h3 : (e : Int) < (A : Int) + 2 := by omega
        go_wp2_with fail
        go_ret
        exact ⟨u4, rfl, fin.out (HR.out.stop (.inr (.inl (by rw [HA.out]; exact h2)))), HB3.out⟩
      · have h3 : ¬ (e : Int) < (A : Int) + 2 := by omega
        have h3' : (A : Int) + 2 ≤ e := by omega
        go_wp2_with fail
        refine (ctwo s A _ (by omega) (by omega)).mono ?_
        rintro e1 w4 ⟨rfl, nq4, rfl⟩
        have l1 := two_lt s A
        have HB4 : Hid (Below w.heap.size w (wr.drewN (nq3 + nq4))) := below_drewN HB.out _
        have HO4 : Hid ((wr.drewN (nq3 + nq4)).ownsRow w.heap.size 9 1 u4 i (valsS xs)) := HO.out
        generalize hT : two s A = T at *
        have HT : Hid (two s A = T) := hT
        clear hT
        by_cases h4 : A + 2 + T = e
        · have h5 : ((A : Int) + 2 + (T : Int) != (e : Int)) = false := by simp; omega
          have HR' : Hid (Ro s (two s 6) (i + 1) A (xs ++ [s.extract (A + 2) e])) := by
            have := HR.out.step h0 (by rw [HA.out, HT.out]; omega)
            rw [HA.out] at this
            exact this
          have h6 : (e : Int) ≤ (s.size : Int) := by omega
          have h7 : (0 : Int) ≤ (A : Int) + 2 := by omega
          clear HO HB HO3 HB3 fin HR
          go_wp2_with (at_builtin; go_must (refine wpList_append_lies _ rfl _ _ _ rfl w.heap.size 9 i0 (.string ⟨#[]⟩) 1 16 Try.underlying43 hi hz0 hz1 hz2 rfl (by decide) _ i (valsS xs) rfl (World.ownsRow.alloc HO4.out _) _ 1 1 [.string (s.extract (A + 2) e)] rfl rfl ?q1 ?q2 (by decide) ?q3 ?q4 ?q5 _ rfl ?_))
          (try (case q1 => exact cell_one_new _ _ _))
          case q2 => first | (intro u hu; simp at hu; rw [hu]; rfl) | rfl | simp
          case q3 => unfold maxLen; omega
          case q4 => omega
          case q5 => have := Below.size HB4.out; simp at this ⊢; omega
          intro g1 cap1 W1 hown1 hgrow hat hlt1
          rw [valsS_app] at hown1
          have HB5 : Hid (Below w.heap.size w W1) := (Below.alloc HB4.out (Below.size HB4.out) _).grown hgrow (by have := Below.size HB4.out; simp at this ⊢; omega) (fun k hk => ((World.ownsRow.lt HO4.out) k hk).1)
          have HO5 : Hid (W1.ownsRow w.heap.size 9 1 (.slice (some ⟨g1, 0, none⟩) (i + 1) cap1) (i + 1) (valsS (xs ++ [s.extract (A + 2) e]))) := hown1
          clear hown1 hgrow hat hlt1 HO4 HB4
          go_wp2
          go_roundw
          case rel => exact ⟨i + 1, A, _, by go_num, rfl, HR', HO5, HB5⟩
          case measure => simp [intOf]; omega
        · have h5 : ((A : Int) + 2 + (T : Int) != (e : Int)) = true := by simp; omega
          go_wp2_with fail
          go_ret
          exact ⟨u4, rfl, fin.out (HR.out.stop (.inr (.inr (by rw [HA.out, HT.out]; exact h4)))), HB4.out⟩
    · obtain rfl : i = two s 6 := by omega
      go_wp2_with fail
      go_ret
      exact ⟨u4, rfl, fin.out (HR.out.stop (.inl rfl)), HB.out⟩

set_option maxRecDepth 20000 in
set_option maxHeartbeats 1000000 in
theorem ccells_b (s : ByteArray) (w : World) (hs : s.size = 1024) (hm : 253 < two s 6) :
    Calls Try.prog 57 #[.string s] w fun e w' => ∃ v, e = .returned v ∧ w'.ownsRow w.heap.size 9 1 v (rd s (253) 0 1024).length (valsS (rd s (253) 0 1024)) ∧ Below w.heap.size w w' := by
  obtain ⟨i0, hi, hz0, hz1, hz2⟩ := info_parts infoS
  have hm' : 253 < (two s 6 : Int) := by omega
  go_enter Try.func57, Try.ntmps57
  go_wp2_with fail
  refine (ctwo s 6 _ (by omega) (by omega)).mono ?_
  rintro e w1 ⟨rfl, nq, rfl⟩
  obtain ⟨w2, hmk, hown, hgr⟩ := run_make_own (P := Try.prog) (w := w.drewN nq) w.heap.size 43 9 i0 (.string ⟨#[]⟩) 1 Try.underlying43 hi hz0 hz1 .i64 .i64 (253) (by rw [hz2]; omega) (by unfold maxLen; omega) (by simp)
  have HO : Hid (w2.ownsRow w.heap.size 9 1 (.slice (some ⟨w.heap.size, 0, none⟩) 0 (253)) 0 (valsS [])) := (by simpa [valsS] using hown : w2.ownsRow w.heap.size 9 1 (.slice (some ⟨w.heap.size, 0, none⟩) 0 (253)) 0 (valsS []))
  have HB : Hid (Below w.heap.size w w2) := (below_drewN (Below.refl _ _) nq).grown hgr (by simp) (fun k hk => by cases hk)
  replace hmk : (Instr.makeSlice 43 (.int .i64 0) (.int .i64 253)).run Try.prog (w.drewN nq) = .ok (.slice (some ⟨w.heap.size, 0, none⟩) 0 253) w2 := hmk
  clear hown hgr
  go_wp2_with fail
  go_loopw [4, 5, 16] (fun v x y X => ∃ (i e : Nat) (xs : List ByteArray), y = .int .i64 i ∧ x = .int .i64 e ∧ Hid (Ro s (253) i e xs) ∧ Hid (X.ownsRow w.heap.size 9 1 v i (valsS xs)) ∧ Hid (Below w.heap.size w X)) (fun _ _ y _ => 253 - (intOf y).toNat)
  case atStart => exact ⟨0, 1024, [], rfl, rfl, Ro.start s _, HO.out, HB.out⟩
  case round =>
    obtain ⟨i, e, xs, rfl, rfl, HR, HO, HB⟩ := hrel
    have e0 : e ≤ 1024 := HR.out.end'
    have i1 := HR.out.le
    have fin : Hid (xs = rd s (253) 0 1024 → wr.ownsRow w.heap.size 9 1 u4 (rd s (253) 0 1024).length (valsS (rd s (253) 0 1024))) := fun h => by
      have hl := HR.out.len
      subst hl
      rw [← h]
      exact HO.out
    by_cases h0 : i < 253
    · have h1 : (i : Int) < (253 : Int) := by omega
      have HI : Hid (12 + 2 * (i : Int) = ((12 + 2 * i : Nat) : Int)) := (by omega : 12 + 2 * (i : Int) = ((12 + 2 * i : Nat) : Int))
      go_wp2_with fail
      rw [HI.out]
      refine (ctwo s (12 + 2 * i) _ (by omega) (by omega)).mono ?_
      rintro e1 w3 ⟨rfl, nq3, rfl⟩
      have l0 := two_lt s (12 + 2 * i)
      have HB3 : Hid (Below w.heap.size w (wr.drewN nq3)) := below_drewN HB.out _
      have HO3 : Hid ((wr.drewN nq3).ownsRow w.heap.size 9 1 u4 i (valsS xs)) := HO.out
      generalize hA : two s (12 + 2 * i) = A at *
      have HA : Hid (two s (12 + 2 * i) = A) := hA
      clear hA
      by_cases h2 : e < A + 2
      · have h3 : (e : Int) < (A : Int) + 2 := by omega
        go_wp2_with fail
        go_ret
        exact ⟨u4, rfl, fin.out (HR.out.stop (.inr (.inl (by rw [HA.out]; exact h2)))), HB3.out⟩
      · have h3 : ¬ (e : Int) < (A : Int) + 2 := by omega
        have h3' : (A : Int) + 2 ≤ e := by omega
        go_wp2_with fail
        refine (ctwo s A _ (by omega) (by omega)).mono ?_
        rintro e1 w4 ⟨rfl, nq4, rfl⟩
        have l1 := two_lt s A
        have HB4 : Hid (Below w.heap.size w (wr.drewN (nq3 + nq4))) := below_drewN HB.out _
        have HO4 : Hid ((wr.drewN (nq3 + nq4)).ownsRow w.heap.size 9 1 u4 i (valsS xs)) := HO.out
        generalize hT : two s A = T at *
        have HT : Hid (two s A = T) := hT
        clear hT
        by_cases h4 : A + 2 + T = e
        · have h5 : ((A : Int) + 2 + (T : Int) != (e : Int)) = false := by simp; omega
          have HR' : Hid (Ro s (253) (i + 1) A (xs ++ [s.extract (A + 2) e])) := by
            have := HR.out.step h0 (by rw [HA.out, HT.out]; omega)
            rw [HA.out] at this
            exact this
          have h6 : (e : Int) ≤ (s.size : Int) := by omega
          have h7 : (0 : Int) ≤ (A : Int) + 2 := by omega
          clear HO HB HO3 HB3 fin HR
          go_wp2_with (at_builtin; go_must (refine wpList_append_lies _ rfl _ _ _ rfl w.heap.size 9 i0 (.string ⟨#[]⟩) 1 16 Try.underlying43 hi hz0 hz1 hz2 rfl (by decide) _ i (valsS xs) rfl (World.ownsRow.alloc HO4.out _) _ 1 1 [.string (s.extract (A + 2) e)] rfl rfl ?q1 ?q2 (by decide) ?q3 ?q4 ?q5 _ rfl ?_))
          (try (case q1 => exact cell_one_new _ _ _))
          case q2 => first | (intro u hu; simp at hu; rw [hu]; rfl) | rfl | simp
          case q3 => unfold maxLen; omega
          case q4 => omega
          case q5 => have := Below.size HB4.out; simp at this ⊢; omega
          intro g1 cap1 W1 hown1 hgrow hat hlt1
          rw [valsS_app] at hown1
          have HB5 : Hid (Below w.heap.size w W1) := (Below.alloc HB4.out (Below.size HB4.out) _).grown hgrow (by have := Below.size HB4.out; simp at this ⊢; omega) (fun k hk => ((World.ownsRow.lt HO4.out) k hk).1)
          have HO5 : Hid (W1.ownsRow w.heap.size 9 1 (.slice (some ⟨g1, 0, none⟩) (i + 1) cap1) (i + 1) (valsS (xs ++ [s.extract (A + 2) e]))) := hown1
          clear hown1 hgrow hat hlt1 HO4 HB4
          go_wp2
          go_roundw
          case rel => exact ⟨i + 1, A, _, by go_num, rfl, HR', HO5, HB5⟩
          case measure => simp [intOf]; omega
        · have h5 : ((A : Int) + 2 + (T : Int) != (e : Int)) = true := by simp; omega
          go_wp2_with fail
          go_ret
          exact ⟨u4, rfl, fin.out (HR.out.stop (.inr (.inr (by rw [HA.out, HT.out]; exact h4)))), HB4.out⟩
    · obtain rfl : i = 253 := by omega
      go_wp2_with fail
      go_ret
      exact ⟨u4, rfl, fin.out (HR.out.stop (.inl rfl)), HB.out⟩

theorem ccells (s : ByteArray) (w : World) (hs : s.size = 1024) :
    Calls Try.prog 57 #[.string s] w fun e w' => ∃ v, e = .returned v ∧ w'.ownsRow w.heap.size 9 1 v (rd s (many s) 0 1024).length (valsS (rd s (many s) 0 1024)) ∧ Below w.heap.size w w' := by
  unfold many
  by_cases h : two s 6 ≤ 253
  · rw [Nat.min_eq_left h]; exact ccells_a s w hs h
  · rw [Nat.min_eq_right (by omega)]; exact ccells_b s w hs (by omega)
end Go.Proofs.Ythimnpobcfkghaa
