/- The contract of page.Open: the page of which Seal gives just these bytes. -/
import Derived.Test.YthimnpobcfkghaaPage6
namespace Go.Proofs.Ythimnpobcfkghaa
open Go.RowKit
attribute [local go_sem ↓] Go.wp_at_zero Go.wp_at_succ

def cls (s : ByteArray) : List ByteArray := rd s (many s) 0 1024
theorem extract_le (s : ByteArray) (a b : Nat) (h : s.size = 1024) : (s.extract a b).size ≤ 1024 := by
  rw [ByteArray.size_extract]; omega
theorem rd_size {s : ByteArray} (hs : s.size = 1024) : ∀ f i e, ∀ x ∈ rd s f i e, x.size ≤ 1024
  | 0, _, _, x, h => by cases h
  | f + 1, i, e, x, h => by
    unfold rd at h
    split at h
    · cases h
    · rcases List.mem_cons.1 h with rfl | h
      · exact extract_le s _ _ hs
      · exact rd_size hs f _ _ x h
theorem len_le {S : Nat → ByteArray} (h : ∀ i, (S i).size ≤ 1024) : ∀ n, len S n ≤ 1024 * n
  | 0 => Nat.le_refl _
  | n + 1 => by
    have := len_le h n
    have := h n
    show len S n + (S n).size ≤ _
    omega
theorem cls_used {s : ByteArray} (hs : s.size = 1024) : 4 * (cls s).length + len (tx (cls s)) (cls s).length ≤ 1099511627776 := by
  have h1 : (cls s).length ≤ 253 := Nat.le_trans (rd_len s _ _ _) (Nat.min_le_right _ _)
  have h2 := len_le (S := tx (cls s)) (fun i => by
    unfold tx
    rw [List.getD_eq_getElem?_getD]
    cases h : (cls s)[i]? with
    | none => exact Nat.zero_le _
    | some x => exact rd_size hs _ _ _ x (List.mem_of_getElem? h)) (cls s).length
  omega
theorem str_ne {a b : ByteArray} (h : ¬ a = b) : (a.toList == b.toList) = false := by
  rw [beq_eq_false_iff_ne, ByteArray.toList_eq, ByteArray.toList_eq]
  intro e
  apply h
  cases a
  cases b
  congr 1
  exact Array.ext' e
theorem own_mono {W : World} {base base' k : Nat} {v : Value} {xs : List Value} (ho : W.ownsRow base 9 1 v k xs) (h : base' ≤ base) : W.ownsRow base' 9 1 v k xs := by
  refine ⟨ho.1, ?_⟩
  rcases ho.2 with h' | ⟨g, cap, cur, h1, h2, h3⟩
  · exact .inl h'
  · exact .inr ⟨g, cap, cur, h1, Nat.le_trans h h2, h3⟩
/- is it a page? -/
def good (s : ByteArray) : Prop := (1 ≤ byt s 4 ∧ byt s 4 ≤ 5 ∧ four s 8 ≤ 2147483647) ∧ 4 * (cls s).length + len (tx (cls s)) (cls s).length ≤ 1012 ∧ (⟨(sealed (byt s 4) (four s 8) (cls s).length (tx (cls s))).toArray⟩ : ByteArray) = s

set_option maxRecDepth 20000 in
set_option maxHeartbeats 1000000 in
theorem copen (s : ByteArray) (w : World) (hs : s.size = 1024) :
    Calls Try.prog 30 #[.string s] w fun e w' => ((good s ∧ ∃ v, e = .returned (.tuple #[.agg #[.int .i64 (byt s 4), .int .i64 (four s 8), v], .int .i64 0]) ∧ w'.ownsRow w.heap.size 9 1 v (cls s).length (valsS (cls s))) ∨ (¬ good s ∧ e = .returned (.tuple #[.agg #[.int .i64 0, .int .i64 0, .slice none 0 0], .int .i64 4]))) ∧ Below w.heap.size w w' := by
  go_enter Try.func30, Try.ntmps30
  go_upto_region 3 with fail
  have hw0 : Below w.heap.size w (w.alloc (.cells #[.int .i64 0, .int .i64 0, .slice none 0 0] 45)) := ((Below.refl _ _).alloc (Nat.le_refl _) _)
  refine regO s hs ?_ rfl rfl (by kernel_rfl) (by kernel_rfl) (by kernel_rfl) (by kernel_rfl) (by kernel_rfl) (by kernel_rfl) (by kernel_rfl) (by kernel_rfl) ?_
  · simp
  intro u11 u12 u13 u14 u15 u16 u17 u18 b v X zb hbx hB ho
  obtain ⟨ga, gc, rfl, hst⟩ := sta_own ho
  have HO : Hid _ := ho
  have HX : Hid _ := hbx
  have HB : Hid (Below w.heap.size w X) := hw0.trans (hB.mono hw0.size)
  have hR : Bx3 X w.heap.size (.int .i64 0) (.int .i64 0) (.slice none 0 0) := (Bx3.new w _ _ _).below hB
  have HR : Hid _ := hR
  have b0 := hbx.c0
  have b1 := hbx.c1
  have b2 := hbx.c2
  have HS : Hid (StA X ga (cls s).length (tx (cls s))) := hst
  clear ho hbx hB hw0 hR hst
  simp only [sets, List.setIfInBounds_toArray, List.set_cons_zero, List.set_cons_succ]
  go_wp2_with fail
  refine (cseal (byt s 4) (four s 8) ga (cls s).length gc (tx (cls s)) X HS.out (cls_used hs)).mono ?_
  rintro e W1 ⟨h, hb1⟩
  rcases h with ⟨rfl, hbad⟩ | ⟨rfl, hk, hbig⟩ | ⟨rfl, hk, hsm⟩
  · skip
    have HG : Hid (¬ good s) := fun h => hbad (by have := h.1; omega)
    have HB1 : Hid (Below w.heap.size w W1) := HB.out.trans (hb1.mono HB.out.size)
    have hR1 : Bx3 W1 w.heap.size (.int .i64 0) (.int .i64 0) (.slice none 0 0) := Bx3.below HR.out hb1
    have r0 := hR1.c0
    have r1 := hR1.c1
    have r2 := hR1.c2
    have z0 := hR1.fz 0
    have z1 := hR1.fz 1
    have z2 := hR1.fz 2
    clear hR1 hb1
    go_wp2
    refine bodyPost_ret (v := .tuple #[.agg #[.int .i64 0, .int .i64 0, .slice none 0 0], .int .i64 4]) (by simp [results, Try.results30, go_sem, *]) rfl ⟨.inr ⟨HG.out, rfl⟩, ?_⟩
    exact ((HB1.out.setCell (Nat.le_refl _) _).setCell (Nat.le_refl _) _).setCell (Nat.le_refl _) _
  · skip
    have HG : Hid (¬ good s) := fun h => by have := h.2.1; omega
    have HB1 : Hid (Below w.heap.size w W1) := HB.out.trans (hb1.mono HB.out.size)
    have hR1 : Bx3 W1 w.heap.size (.int .i64 0) (.int .i64 0) (.slice none 0 0) := Bx3.below HR.out hb1
    have r0 := hR1.c0
    have r1 := hR1.c1
    have r2 := hR1.c2
    have z0 := hR1.fz 0
    have z1 := hR1.fz 1
    have z2 := hR1.fz 2
    clear hR1 hb1
    go_wp2
    refine bodyPost_ret (v := .tuple #[.agg #[.int .i64 0, .int .i64 0, .slice none 0 0], .int .i64 4]) (by simp [results, Try.results30, go_sem, *]) rfl ⟨.inr ⟨HG.out, rfl⟩, ?_⟩
    exact ((HB1.out.setCell (Nat.le_refl _) _).setCell (Nat.le_refl _) _).setCell (Nat.le_refl _) _
  · by_cases hE : (⟨(sealed (byt s 4) (four s 8) (cls s).length (tx (cls s))).toArray⟩ : ByteArray) = s
    · have HG : Hid (good s) := ⟨by omega, hsm, hE⟩
      have HE : Hid ((⟨(sealed (byt s 4) (four s 8) (cls s).length (tx (cls s))).toArray⟩ : ByteArray) = s) := hE
      have HB1 : Hid (Below w.heap.size w W1) := HB.out.trans (hb1.mono HB.out.size)
      have hR1 : Bx3 W1 w.heap.size (.int .i64 0) (.int .i64 0) (.slice none 0 0) := Bx3.below HR.out hb1
      have r0 := hR1.c0
      have r1 := hR1.c1
      have r2 := hR1.c2
      have z0 := hR1.fz 0
      have z1 := hR1.fz 1
      have z2 := hR1.fz 2
      have hX1 : Bx3 W1 b (.int .i64 (byt s 4)) (.int .i64 (four s 8)) (.slice ga (cls s).length gc) := Bx3.below HX.out hb1
      have b0' := hX1.c0
      have b1' := hX1.c1
      have b2' := hX1.c2
      have HO1 : Hid _ := own_put hR1 (own_below HO.out hb1) (.int .i64 (byt s 4)) (.int .i64 (four s 8)) (.slice ga (cls s).length gc)
      simp only [Int.toNat_natCast]
      rw [HE.out]
      clear hR1 hb1 hX1 b0 b1 b2 hE
      go_wp2
      refine bodyPost_ret (v := .tuple #[.agg #[.int .i64 (byt s 4), .int .i64 (four s 8), .slice ga (cls s).length gc], .int .i64 0]) (by simp [results, Try.results30, go_sem, *]) rfl ⟨.inl ⟨HG.out, _, rfl, own_mono HO1.out (by simp)⟩, ?_⟩
      exact ((HB1.out.setCell (Nat.le_refl _) _).setCell (Nat.le_refl _) _).setCell (Nat.le_refl _) _
    · have hE' := str_ne hE
      have HG : Hid (¬ good s) := fun h => hE h.2.2
      have HB1 : Hid (Below w.heap.size w W1) := HB.out.trans (hb1.mono HB.out.size)
      have hR1 : Bx3 W1 w.heap.size (.int .i64 0) (.int .i64 0) (.slice none 0 0) := Bx3.below HR.out hb1
      have r0 := hR1.c0
      have r1 := hR1.c1
      have r2 := hR1.c2
      have z0 := hR1.fz 0
      have z1 := hR1.fz 1
      have z2 := hR1.fz 2
      clear hR1 hb1
      simp only [Int.toNat_natCast]
      generalize (⟨(sealed (byt s 4) (four s 8) (cls s).length (tx (cls s))).toArray⟩ : ByteArray) = T at *
      go_wp2
      refine bodyPost_ret (v := .tuple #[.agg #[.int .i64 0, .int .i64 0, .slice none 0 0], .int .i64 4]) (by simp [results, Try.results30, go_sem, *]) rfl ⟨.inr ⟨HG.out, rfl⟩, ?_⟩
      exact ((HB1.out.setCell (Nat.le_refl _) _).setCell (Nat.le_refl _) _).setCell (Nat.le_refl _) _
end Go.Proofs.Ythimnpobcfkghaa
