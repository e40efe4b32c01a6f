/- The contract of relstoreref.Open: the same page, or none, as page.Open tells. -/
import Derived.Test.YthimnpobcfkghaaPageR4a
namespace Go.Proofs.Ythimnpobcfkghaa
open Go.RowKit
attribute [local go_sem ↓] Go.wp_at_zero Go.wp_at_succ

/- the i-th cell as the document reads it -/
def ra (s : ByteArray) (i : Nat) : Nat := two s (12 + 2 * i)
def rx (s : ByteArray) (i : Nat) : ByteArray := s.extract (ra s i + 2) (ra s i + 2 + two s (ra s i))
def okc (s : ByteArray) (i : Nat) : Prop := ra s i + 2 ≤ 1024 ∧ ra s i + 2 + two s (ra s i) ≤ 1024
theorem good_cells {s : ByteArray} (h : good s) : two s 6 = (cls s).length ∧ (cls s).length ≤ 253 ∧ ∀ i, i < (cls s).length → okc s i ∧ rx s i = tx (cls s) i := by
  obtain ⟨_, hn, he⟩ := h
  have e1 := sealed_many (K := byt s 4) (Lk := four s 8) hn
  rw [he] at e1
  refine ⟨e1, by omega, fun i hi => ?_⟩
  have e2 := sealed_at (K := byt s 4) (Lk := four s 8) hn (show i + 1 ≤ (cls s).length by omega)
  have e3 := sealed_size (K := byt s 4) (Lk := four s 8) hn (show i + 1 ≤ (cls s).length by omega)
  have e4 := sealed_extract (K := byt s 4) (Lk := four s 8) hn (show i + 1 ≤ (cls s).length by omega)
  rw [he] at e2 e3 e4
  obtain ⟨a1, a2, a3⟩ := at_s hn (show i + 1 ≤ (cls s).length by omega)
  unfold okc rx ra
  rw [e2, e3]
  refine ⟨by omega, ?_⟩
  rw [a1]
  exact e4
def mr (s : ByteArray) : Nat := min (two s 6) 506
theorem good_mr {s : ByteArray} (h : good s) : mr s = (cls s).length := by
  obtain ⟨h1, h2, _⟩ := good_cells h
  unfold mr
  rw [h1]
  omega
theorem rx_size {s : ByteArray} (hs : s.size = 1024) (i : Nat) : (rx s i).size ≤ 1024 := extract_le s _ _ hs
theorem rx_used {s : ByteArray} (hs : s.size = 1024) (k : Nat) (hk : k ≤ 506) : 4 * k + len (rx s) k ≤ 1099511627776 := by
  have := len_le (S := rx s) (fun i => rx_size hs i) k
  omega
theorem good_len {s : ByteArray} (h : good s) : len (rx s) (cls s).length = len (tx (cls s)) (cls s).length := len_congr fun i hi => ((good_cells h).2.2 i hi).2
/- the document's own test -/
theorem good_of {s : ByteArray} {k : Nat} (hK : 1 ≤ byt s 4 ∧ byt s 4 ≤ 5) (hL : four s 8 ≤ 2147483647) (hn : 4 * k + len (rx s) k ≤ 1012) (he : (⟨(sealed (byt s 4) (four s 8) k (rx s)).toArray⟩ : ByteArray) = s) : good s ∧ cls s = (List.range k).map (rx s) := by
  have h1 := sealed_good (Lk := four s 8) hK hL hn
  have h2 := sealed_cls (K := byt s 4) (Lk := four s 8) hn
  rw [he] at h1 h2
  exact ⟨h1, h2⟩
theorem good_same {s : ByteArray} (h : good s) : (⟨(sealed (byt s 4) (four s 8) (mr s) (rx s)).toArray⟩ : ByteArray) = s ∧ 4 * mr s + len (rx s) (mr s) ≤ 1012 := by
  rw [good_mr h]
  have := h.2.1
  refine ⟨?_, by rw [good_len h]; omega⟩
  rw [sealed_congr fun i hi => ((good_cells h).2.2 i hi).2]
  exact h.2.2

theorem two_boxes (w : World) (x y z x' y' z' : Value) : Bx3 ((w.alloc (.cells #[x, y, z] 45)).alloc (.cells #[x', y', z'] 45)).drew w.heap.size x y z ∧ Bx3 ((w.alloc (.cells #[x, y, z] 45)).alloc (.cells #[x', y', z'] 45)).drew (w.heap.size + 1) x' y' z' := by
  constructor
  · exact (Bx3.new w x y z).below (W' := (w.alloc (.cells #[x, y, z] 45)).alloc (.cells #[x', y', z'] 45)) ((Below.refl _ _).alloc (Nat.le_refl _) _)
  · have := Bx3.new (w.alloc (.cells #[x, y, z] 45)) x' y' z'
    rw [World.size_alloc] at this
    exact this
set_option maxRecDepth 20000 in
set_option maxHeartbeats 1000000 in
theorem ropen (s : ByteArray) (w : World) (hs : s.size = 1024) :
    Calls Try.prog 31 #[.string s] w fun e w' => ((good s ∧ ∃ v, e = .returned (.tuple #[.agg #[.int .i64 (byt s 4), .int .i64 (four s 8), v], .int .i64 0]) ∧ w'.ownsRow w.heap.size 9 1 v (cls s).length (valsS (cls s))) ∨ (¬ good s ∧ e = .returned (.tuple #[.agg #[.int .i64 0, .int .i64 0, .slice none 0 0], .int .i64 4]))) ∧ Below w.heap.size w w' := by
  have hsz : (s.size : Int) = 1024 := by omega
  have g0 := byt_get (show 4 < s.size by omega)
  have b0 := byt_lt s 4
  have HU : Hid _ := ub_four (s := s) (a := 8) (by omega)
  have hz : (s.extract 8 12).size = 4 := by rw [ByteArray.size_extract]; omega
  have f4 : four s 8 < 4294967296 := by
    have := two_lt s 8
    have h10 : two s (8 + 2) < 65536 := two_lt s 10
    unfold four; omega
  have e8 : IntKind.i64.wrap ((four s 8 : Nat) : Int) = ((four s 8 : Nat) : Int) := wrap_i64n _ (by omega)
  have e9 : IntKind.i64.wrap ((byt s 4 : Nat) : Int) = ((byt s 4 : Nat) : Int) := wrap_i64n _ (by omega)
  go_enter Try.func31, Try.ntmps31
  go_upto_region 3 with fail
  go_cut [4] (fun x wx => x = .pointer (some ⟨w.heap.size + 1, 0, none⟩) ∧ Hid (Bx3 wx w.heap.size (.int .i64 0) (.int .i64 0) (.slice none 0 0)) ∧ Hid (Bx3 wx (w.heap.size + 1) (.int .i64 (byt s 4)) (.int .i64 (four s 8)) (.slice none 0 0)) ∧ Hid (Below w.heap.size w wx))
  case first =>
    go_region_with (go_at_call 39; refine (runbytes (s.extract 8 12) _ (by omega)).mono ?_; rintro e w' ⟨rfl, rfl⟩; rw [show ub (s.extract 8 12) (s.extract 8 12).size = four s 8 from HU.out])
    all_goals
      go_wp2_with fail
      go_meet
      exact ⟨rfl, (two_boxes w _ _ _ _ _ _).1, (two_boxes w _ _ _ _ _ _).2, ((((Below.refl _ _).alloc (Nat.le_refl _) _).alloc (by simp) _)).drew⟩
  case rest =>
    obtain ⟨rfl, HR, HP, HB⟩ := hcut
    clear g0 e9 e8 hz
    have HU6 : Hid _ := ub_two (s := s) (a := 6) (by omega)
    have z6 : (s.extract 6 8).size = 2 := by rw [ByteArray.size_extract]; omega
    have t6 := two_lt s 6
    go_wp2_with fail
    go_loopw [5] (fun y X => ∃ (k : Nat) (v : Value), y = .int .i64 k ∧ k ≤ mr s ∧ Hid (∀ i, i < k → okc s i) ∧ Hid (Bx3 X w.heap.size (.int .i64 0) (.int .i64 0) (.slice none 0 0)) ∧ Hid (Bx3 X (w.heap.size + 1) (.int .i64 (byt s 4)) (.int .i64 (four s 8)) v) ∧ Hid (X.ownsRow w.heap.size 9 1 v k (valsS ((List.range k).map (rx s)))) ∧ Hid (Below w.heap.size w X)) (fun y _ => 506 - (intOf y).toNat)
    case atStart => exact ⟨0, _, rfl, Nat.zero_le _, fun i hi => absurd hi (by omega), HR, HP, World.ownsRow_nil _ _ _ _, HB⟩
    case round =>
      obtain ⟨k, v, rfl, hk, HOK, HR, HP, HO, HB⟩ := hrel
      have hmr : mr s = min (two s 6) 506 := rfl
      have hk5 : k ≤ 506 := by omega
      go_wp2_with fail
      refine (runbytes (s.extract 6 8) _ (by omega)).mono ?_
      rintro e w' ⟨rfl, rfl⟩
      rw [show ub (s.extract 6 8) (s.extract 6 8).size = two s 6 from HU6.out]
      by_cases h0 : k < mr s
      · have h1 : (k : Int) < ((two s 6 : Nat) : Int) := by omega
        have h2 : 14 + 2 * (k : Int) ≤ 1024 := by omega
        have HNK : Hid (¬ okc s k → ¬ good s) := fun hn hg => hn ((good_cells hg).2.2 k (by rw [← good_mr hg]; exact h0)).1
        have HUk : Hid (ub (s.extract (12 + 2 * k) (14 + 2 * k)) (s.extract (12 + 2 * k) (14 + 2 * k)).size = ra s k) := by
          show ub (s.extract (12 + 2 * k) (14 + 2 * k)) (s.extract (12 + 2 * k) (14 + 2 * k)).size = ra s k
          rw [show 14 + 2 * k = 12 + 2 * k + 2 by omega]
          exact ub_two (by omega)
        have zk : (s.extract (12 + 2 * k) (14 + 2 * k)).size = 2 := by rw [ByteArray.size_extract]; omega
        go_wp2_with fail
        refine (runbytes (s.extract (12 + 2 * k) (14 + 2 * k)) _ (by omega)).mono ?_
        rintro e w' ⟨rfl, rfl⟩
        rw [HUk.out]
        have lA : ra s k < 65536 := two_lt s _
        by_cases h3 : 1024 < ra s k + 2
        · have h3' : (1024 : Int) < ((ra s k : Nat) : Int) + 2 := by omega
          have HNG : Hid (¬ good s) := HNK.out (fun h => by have := h.1; omega)
          have r0 := HR.out.c0
          have r1 := HR.out.c1
          have r2 := HR.out.c2
          have y0 := HR.out.fz 0
          have y1 := HR.out.fz 1
          have y2 := HR.out.fz 2
          go_wp2_with fail
          refine bodyPost_ret (v := .tuple #[.agg #[.int .i64 0, .int .i64 0, .slice none 0 0], .int .i64 4]) (by simp [results, Try.results31, go_sem, *]) rfl ⟨.inr ⟨HNG.out, rfl⟩, ?_⟩
          exact ((HB.out.setCell (Nat.le_refl _) _).setCell (Nat.le_refl _) _).setCell (Nat.le_refl _) _
        · have h3' : ((ra s k : Nat) : Int) + 2 ≤ 1024 := by omega
          have HUa : Hid (ub (s.extract (ra s k) (ra s k + 2)) (s.extract (ra s k) (ra s k + 2)).size = two s (ra s k)) := ub_two (by omega)
          have za : (s.extract (ra s k) (ra s k + 2)).size = 2 := by rw [ByteArray.size_extract]; omega
          go_wp2_with fail
          refine (runbytes (s.extract (ra s k) (ra s k + 2)) _ (by omega)).mono ?_
          rintro e w' ⟨rfl, rfl⟩
          rw [HUa.out]
          have lT : two s (ra s k) < 65536 := two_lt s _
          by_cases h4 : 1024 < ra s k + 2 + two s (ra s k)
          · have h4' : (1024 : Int) < ((ra s k : Nat) : Int) + 2 + ((two s (ra s k) : Nat) : Int) := by omega
            have HNG : Hid (¬ good s) := HNK.out (fun h => by have := h.2; omega)
            have r0 := HR.out.c0
            have r1 := HR.out.c1
            have r2 := HR.out.c2
            have y0 := HR.out.fz 0
            have y1 := HR.out.fz 1
            have y2 := HR.out.fz 2
            go_wp2_with fail
            refine bodyPost_ret (v := .tuple #[.agg #[.int .i64 0, .int .i64 0, .slice none 0 0], .int .i64 4]) (by simp [results, Try.results31, go_sem, *]) rfl ⟨.inr ⟨HNG.out, rfl⟩, ?_⟩
            exact ((HB.out.setCell (Nat.le_refl _) _).setCell (Nat.le_refl _) _).setCell (Nat.le_refl _) _
          · have h4' : ((ra s k : Nat) : Int) + 2 + ((two s (ra s k) : Nat) : Int) ≤ 1024 := by omega
            have HOK' : Hid (∀ i, i < k + 1 → okc s i) := fun i hi => by
              by_cases e : i = k
              · subst e; exact ⟨by omega, by omega⟩
              · exact HOK.out i (by omega)
            go_upto_region 13 with fail
            refine regA s hs (ra s k) (two s (ra s k)) (by omega) (.int .i64 (byt s 4)) (.int .i64 (four s 8)) v k (by omega) ((List.range k).map (rx s)) HR.out HP.out HO.out HB.out ?_ rfl rfl rfl rfl rfl (by kernel_rfl) (by kernel_rfl) (by kernel_rfl) (by kernel_rfl) (by kernel_rfl) (by kernel_rfl) (by kernel_rfl) (by kernel_rfl) (by kernel_rfl) (by kernel_rfl) (by kernel_rfl) ?_
            · simp
            intro u63' u64' u65' u66' u67' u68' u69' u70' u71' u72' u73' u74' u75' g1 cap1 Y hfa
            obtain ⟨hR1, hP1, hO1, hB1⟩ := hfa
            have HR1 : Hid _ := hR1
            have HP1 : Hid (Bx3 Y (w.heap.size + 1) (.int .i64 (byt s 4)) (.int .i64 (four s 8)) (.slice (some ⟨g1, 0, none⟩) (k + 1) cap1)) := hP1
            have HB1 : Hid _ := hB1
            have HO1 : Hid (Y.ownsRow w.heap.size 9 1 (.slice (some ⟨g1, 0, none⟩) (k + 1) cap1) (k + 1) (valsS ((List.range (k + 1)).map (rx s)))) := by
              show Y.ownsRow w.heap.size 9 1 (.slice (some ⟨g1, 0, none⟩) (k + 1) cap1) (k + 1) (valsS ((List.range (k + 1)).map (rx s)))
              rw [List.range_succ, List.map_append]
              exact hO1
            clear hR1 hP1 hO1 hB1 HR HP HO HB HUa HUk HNK HOK
            simp only [sets, List.setIfInBounds_toArray, List.set_cons_zero, List.set_cons_succ]
            go_wp2
            go_roundw
            case rel => exact ⟨k + 1, _, by go_num, by omega, HOK', HR1, HP1, HO1, HB1⟩
            case measure => simp [intOf]; omega
      · obtain rfl : k = mr s := by omega
        have HE1 : Hid (two s 6 ≤ mr s ∨ 506 ≤ mr s) := (by omega : two s 6 ≤ mr s ∨ 506 ≤ mr s)
        obtain ⟨ga, gc, rfl, hst⟩ := sta_own HO.out
        have HS : Hid (StA w' ga (mr s) (rx s)) := by
          rcases hst with h | ⟨b, off, e, hlt, h⟩
          · exact Or.inl h
          · exact Or.inr ⟨b, off, e, hlt, fun i hi => by rw [h i hi, tx_range _ hi]⟩
        have p0 := HP.out.c0
        have p1 := HP.out.c1
        have p2 := HP.out.c2
        clear hst HOK
        by_cases hc : two s 6 ≤ mr s
        · have hcc : decide (((mr s : Nat) : Int) < ((two s 6 : Nat) : Int)) = false := decide_eq_false (by omega)
          go_wp2_with fail
          refine (rseal (byt s 4) (four s 8) ga (mr s) gc (rx s) _ HS.out (rx_used hs _ (by omega))).mono ?_
          rintro e W1 ⟨h, hb1⟩
          rcases h with ⟨rfl, hbad⟩ | ⟨rfl, hkk, hbig⟩ | ⟨rfl, hkk, hsm⟩
          · skip
            have HNG : Hid (¬ good s) := fun h => hbad (by have := h.1; omega)
            have HB1 : Hid (Below w.heap.size w W1) := keepBelow HB.out hb1
            have hR1 := Bx3.below HR.out hb1
            have r0 := hR1.c0
            have r1 := hR1.c1
            have r2 := hR1.c2
            have y0 := hR1.fz 0
            have y1 := hR1.fz 1
            have y2 := hR1.fz 2
            clear hR1 hb1
            skip
            go_wp2_with fail
            refine bodyPost_ret (v := .tuple #[.agg #[.int .i64 0, .int .i64 0, .slice none 0 0], .int .i64 4]) (by simp [results, Try.results31, go_sem, *]) rfl ⟨.inr ⟨HNG.out, rfl⟩, ?_⟩
            exact ((HB1.out.setCell (Nat.le_refl _) _).setCell (Nat.le_refl _) _).setCell (Nat.le_refl _) _
          · skip
            have HNG : Hid (¬ good s) := fun h => by have := (good_same h).2; omega
            have HB1 : Hid (Below w.heap.size w W1) := keepBelow HB.out hb1
            have hR1 := Bx3.below HR.out hb1
            have r0 := hR1.c0
            have r1 := hR1.c1
            have r2 := hR1.c2
            have y0 := hR1.fz 0
            have y1 := hR1.fz 1
            have y2 := hR1.fz 2
            clear hR1 hb1
            skip
            go_wp2_with fail
            refine bodyPost_ret (v := .tuple #[.agg #[.int .i64 0, .int .i64 0, .slice none 0 0], .int .i64 4]) (by simp [results, Try.results31, go_sem, *]) rfl ⟨.inr ⟨HNG.out, rfl⟩, ?_⟩
            exact ((HB1.out.setCell (Nat.le_refl _) _).setCell (Nat.le_refl _) _).setCell (Nat.le_refl _) _
          · by_cases hE : (⟨(sealed (byt s 4) (four s 8) (mr s) (rx s)).toArray⟩ : ByteArray) = s
            · obtain ⟨hg, hc'⟩ := good_of (k := mr s) (by omega) (by omega) hsm hE
              have HG : Hid (good s) := hg
              have HE : Hid ((⟨(sealed (byt s 4) (four s 8) (mr s) (rx s)).toArray⟩ : ByteArray) = s) := hE
              have HB1 : Hid (Below w.heap.size w W1) := keepBelow HB.out hb1
              have hR1 := Bx3.below HR.out hb1
              have r0 := hR1.c0
              have r1 := hR1.c1
              have r2 := hR1.c2
              have y0 := hR1.fz 0
              have y1 := hR1.fz 1
              have y2 := hR1.fz 2
              have hX1 := Bx3.below HP.out hb1
              have b0' := hX1.c0
              have b1' := hX1.c1
              have b2' := hX1.c2
              have HO1 : Hid ((((W1.setCell ⟨w.heap.size, 0, none⟩ (.int .i64 (byt s 4))).setCell ⟨w.heap.size, 1, none⟩ (.int .i64 (four s 8))).setCell ⟨w.heap.size, 2, none⟩ (.slice ga (mr s) gc)).ownsRow w.heap.size 9 1 (.slice ga (mr s) gc) (cls s).length (valsS (cls s))) := by
                have := own_put hR1 (own_below HO.out hb1) (.int .i64 (byt s 4)) (.int .i64 (four s 8)) (.slice ga (mr s) gc)
                rw [hc']
                rw [show ((List.range (mr s)).map (rx s)).length = mr s by simp]
                exact this
              simp only [Int.toNat_natCast]
              rw [HE.out]
              clear hR1 hb1 hX1 hE hc' hg
              go_wp2_with fail
              refine bodyPost_ret (v := .tuple #[.agg #[.int .i64 (byt s 4), .int .i64 (four s 8), .slice ga (mr s) gc], .int .i64 0]) (by simp [results, Try.results31, go_sem, *]) rfl ⟨.inl ⟨HG.out, _, rfl, HO1.out⟩, ?_⟩
              exact ((HB1.out.setCell (Nat.le_refl _) _).setCell (Nat.le_refl _) _).setCell (Nat.le_refl _) _
            · have hE' := str_ne hE
              have HNG : Hid (¬ good s) := fun h => hE (good_same h).1
              have HB1 : Hid (Below w.heap.size w W1) := keepBelow HB.out hb1
              have hR1 := Bx3.below HR.out hb1
              have r0 := hR1.c0
              have r1 := hR1.c1
              have r2 := hR1.c2
              have y0 := hR1.fz 0
              have y1 := hR1.fz 1
              have y2 := hR1.fz 2
              clear hR1 hb1
              simp only [Int.toNat_natCast]
              generalize (⟨(sealed (byt s 4) (four s 8) (mr s) (rx s)).toArray⟩ : ByteArray) = T at *
              go_wp2_with fail
              refine bodyPost_ret (v := .tuple #[.agg #[.int .i64 0, .int .i64 0, .slice none 0 0], .int .i64 4]) (by simp [results, Try.results31, go_sem, *]) rfl ⟨.inr ⟨HNG.out, rfl⟩, ?_⟩
              exact ((HB1.out.setCell (Nat.le_refl _) _).setCell (Nat.le_refl _) _).setCell (Nat.le_refl _) _
        · have hc6 : mr s < two s 6 := by omega
          have hc5 : 506 ≤ mr s := by have := HE1.out; omega
          have hcc : decide (((mr s : Nat) : Int) < ((two s 6 : Nat) : Int)) = true := decide_eq_true (by omega)
          have hc7 : ¬ 14 + 2 * ((mr s : Nat) : Int) ≤ 1024 := by omega
          have hc8 : decide (14 + 2 * ((mr s : Nat) : Int) ≤ 1024) = false := decide_eq_false hc7
          go_wp2_with fail
          refine (rseal (byt s 4) (four s 8) ga (mr s) gc (rx s) _ HS.out (rx_used hs _ (by omega))).mono ?_
          rintro e W1 ⟨h, hb1⟩
          rcases h with ⟨rfl, hbad⟩ | ⟨rfl, hkk, hbig⟩ | ⟨rfl, hkk, hsm⟩
          · skip
            have HNG : Hid (¬ good s) := fun h => hbad (by have := h.1; omega)
            have HB1 : Hid (Below w.heap.size w W1) := keepBelow HB.out hb1
            have hR1 := Bx3.below HR.out hb1
            have r0 := hR1.c0
            have r1 := hR1.c1
            have r2 := hR1.c2
            have y0 := hR1.fz 0
            have y1 := hR1.fz 1
            have y2 := hR1.fz 2
            clear hR1 hb1
            skip
            go_wp2_with fail
            refine bodyPost_ret (v := .tuple #[.agg #[.int .i64 0, .int .i64 0, .slice none 0 0], .int .i64 4]) (by simp [results, Try.results31, go_sem, *]) rfl ⟨.inr ⟨HNG.out, rfl⟩, ?_⟩
            exact ((HB1.out.setCell (Nat.le_refl _) _).setCell (Nat.le_refl _) _).setCell (Nat.le_refl _) _
          · skip
            have HNG : Hid (¬ good s) := fun h => by have := (good_same h).2; omega
            have HB1 : Hid (Below w.heap.size w W1) := keepBelow HB.out hb1
            have hR1 := Bx3.below HR.out hb1
            have r0 := hR1.c0
            have r1 := hR1.c1
            have r2 := hR1.c2
            have y0 := hR1.fz 0
            have y1 := hR1.fz 1
            have y2 := hR1.fz 2
            clear hR1 hb1
            skip
            go_wp2_with fail
            refine bodyPost_ret (v := .tuple #[.agg #[.int .i64 0, .int .i64 0, .slice none 0 0], .int .i64 4]) (by simp [results, Try.results31, go_sem, *]) rfl ⟨.inr ⟨HNG.out, rfl⟩, ?_⟩
            exact ((HB1.out.setCell (Nat.le_refl _) _).setCell (Nat.le_refl _) _).setCell (Nat.le_refl _) _
          · omega
end Go.Proofs.Ythimnpobcfkghaa
