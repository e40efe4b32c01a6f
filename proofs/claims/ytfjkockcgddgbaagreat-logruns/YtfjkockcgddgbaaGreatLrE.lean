/- relstoreref: Append -/
import Derived.Test.YtfjkockcgddgbaaGreatLrD
namespace Go.Proofs.YtfjkockcgddgbaaGreat
open Go.RowKit Go.Lib
attribute [local go_sem ↓] Go.wp_at_zero Go.wp_at_succ
theorem infoFR : (Tryz.prog.info? 102).map (fun i => (i.zero, i.size, i.bytes)) = some (some (.agg #[.int .i64 0, .string ⟨#[]⟩]), 2, 24) := by kernel_rfl
theorem owns_sliceF {W : World} {base n : Nat} {v : Value} {xs : List Value} (h : W.ownsRow base 102 2 v n xs) : (v = .slice none 0 0 ∧ n = 0) ∨ ∃ g cap, v = .slice (some ⟨g, 0, none⟩) n cap ∧ n ≤ cap := by
  rcases h.2 with ⟨rfl, h2⟩ | ⟨g, cap, cur, rfl, _, _, h4, _⟩
  · exact .inl ⟨rfl, by omega⟩
  · exact .inr ⟨g, cap, rfl, h4⟩
theorem newsF (w : World) (n : Int) (t : ByteArray) : ∀ j u, [Value.int .i64 n, .string t][j]? = some u → (w.alloc (.cells #[.int .i64 n, .string t] 102)).cell? ((⟨w.heap.size, 0, none⟩ : Addr).add j) = some u := by
  intro j u hj
  rw [add_none]
  match j, hj with
  | 0, h => cases h; go_simp
  | 1, h => cases h; go_simp
theorem one_frame (n : Int) (t : ByteArray) : ∀ u ∈ [Value.int .i64 n, .string t], u.oneCell' = true := by
  intro u hu
  simp at hu
  rcases hu with rfl | rfl <;> rfl
theorem frs_one (l : List (Int × ByteArray)) : ∀ u ∈ frsC l, u.oneCell' = true := by
  intro u hu
  unfold frsC at hu
  obtain ⟨x, _, hx⟩ := List.mem_flatMap.1 hu
  exact one_frame x.1 x.2 u hx
theorem lies_frs {W : World} {B g n cap : Nat} {l : List (Int × ByteArray)} (h : W.ownsRow B 102 2 (.slice (some ⟨g, 0, none⟩) n cap) n (frsC l)) : ∀ j u, (frsC l)[j]? = some u → W.cell? ((⟨g, 0, none⟩ : Addr).add j) = some u := fun j u hj => by
  have h1 := h.1
  have hlt : j < (frsC l).length := (List.getElem?_eq_some_iff.1 hj).1
  rw [Addr.add_lit, Nat.zero_add, h.cellAt j (by omega), hj]
/- the list of frames is copied, and one more written behind it -/
theorem but_two {w w6 w8 : World} {g1 : Nat} {o : Obj} (h1 : w.grownBy w6 none) (hg : g1 = w.heap.size) (h2 : (w6.alloc o).grownBy w8 (some g1)) : Below w.heap.size w w8 :=
  ⟨by rw [h2.os]; exact h1.os, by rw [h2.tape]; exact h1.tape, by rw [h2.output]; exact h1.output, Nat.le_trans h1.size (Nat.le_trans (by simp) h2.size), fun b hb => by
    have hb6 : b < w6.heap.size := Nat.lt_of_lt_of_le hb h1.size
    rw [h2.block b (by simp; omega) (fun e => by injection e with e; omega), heap_alloc_old _ _ hb6]
    exact h1.block b hb (by simp)⟩
set_option maxRecDepth 20000 in
set_option maxHeartbeats 1000000 in
theorem rappend0 (n : Nat) (t : ByteArray) (X : World) (B R M m : Nat) (fs : List (Int × ByteArray)) (c : Cm) (S : DS) (h : RL X B R M fs c S) (hB : B ≤ X.heap.size) (ho : okS S m) (hm : m ≤ 900000) (hf : fs.length ≤ 65536) (h1 : isPg n = true) (hts : t.size = 1024) (h2 : ¬ 67108864 < 64 + 1028 * (fs.length + 1)) (r : Int) (S2 : DS) (hop : opD S 1 (64 + 1028 * (fs.length : Int)) (fourB n ++ t) false = (r, S2)) :
    Calls Tryz.prog 15 #[(.pointer (some ⟨M, 0, none⟩)), .int .i64 n, .string t] X fun e w' => e = .returned (.int .i64 r) ∧ RL w' B R M (if r = 0 then fs ++ [((n : Int), t)] else fs) c S2 ∧ BelT tyL B X w' := by
  obtain ⟨vf, h⟩ := h
  obtain ⟨i0, hi, hz0, hz1, hz2⟩ := info_parts infoFR
  obtain ⟨c0, c1, c2, c3, c4, c5⟩ := h.cells
  have HP : Hid (RLx X B R M fs vf c S) := h
  have HB0 : Hid (B ≤ X.heap.size) := hB
  have HO : Hid (okS S m ∧ m ≤ 1000000) := (⟨ho, by omega⟩ : okS S m ∧ m ≤ 1000000)
  have HOP : Hid _ := hop
  have hM := h.lt
  have HN : (n : Int) ≤ 2147483647 := by
    have := of_decide_eq_true h1
    omega
  have HI : Hid (∀ W, Calls Tryz.prog 56 #[.int .i64 (n : Int), .int .i64 0, .int .i64 2147483647] W fun e w' => e = .returned (.bool true) ∧ w' = W) := fun W => by
    have e : (decide ((0 : Int) ≤ n) && decide ((n : Int) ≤ 2147483647)) = true := by simp; omega
    rw [← e]; exact rin n 0 2147483647 W
  obtain ⟨k, hk⟩ : ∃ k, k = fs.length := ⟨_, rfl⟩
  have HKK : Hid (k = fs.length) := hk
  have s4 := fourB_size n
  have hsl : (vf = .slice none 0 0 ∧ k = 0) ∨ ∃ g cap, vf = .slice (some ⟨g, 0, none⟩) k cap ∧ k ≤ cap := by rw [hk]; exact owns_sliceF h.row
  have hlen : ∃ a cap, vf = .slice a k cap := by
    rcases hsl with ⟨h1, h2⟩ | ⟨g, cap, h1, h2⟩
    · exact ⟨none, 0, by rw [h1, h2]⟩
    · exact ⟨_, cap, h1⟩
  obtain ⟨a, cap, rfl⟩ := hlen
  have HSL : Hid _ := hsl
  have K1 : Hid ((64 + 1028 * (k : Int)) + 1028 ≤ 67108864) := by
    show (64 + 1028 * (k : Int)) + 1028 ≤ 67108864
    omega
  have k2 : (k : Int) ≤ 65536 := by omega
  have HW2 : Hid (IntKind.i64.wrap (64 + 1028 * (k : Int)) = 64 + 1028 * (k : Int)) := by
    show IntKind.i64.wrap (64 + 1028 * (k : Int)) = 64 + 1028 * (k : Int)
    rw [IntKind.wrap_i64]; omega
  have i3 : ((t.size : Int) != 1024) = false := by simp [hts]
  have i4 : (t.size : Int) = 1024 := by omega
  clear h hB ho hop h1 h2 hsl hk
  go_enter Tryz.func15, Tryz.ntmps15
  go_wp2_with fail
  refine (HI.out _).mono ?_
  rintro e w1 ⟨rfl, hw⟩; rw [hw]; clear hw
  go_upto_region 4 with fail
  obtain ⟨q, hq⟩ : ∃ q : Int, q = 64 + 1028 * (k : Int) := ⟨_, rfl⟩
  have HQ : Hid (q = 64 + 1028 * (k : Int)) := hq
  have q1 : q + 1028 ≤ 67108864 := by rw [hq]; exact K1.out
  have q0 : 0 ≤ q := by omega
  have j1 : decide ((67108864 : Int) < q + 1028) = false := decide_eq_false (by omega)
  rw [← hq]
  clear hq K1 HW2
  go_upto_region 6 with fail
  have HOP' : Hid (opD S 1 q (fourB n ++ t) false = (r, S2)) := by
    rw [HQ.out, HKK.out]; exact HOP.out
  have HU : Hid (IntKind.u64.wrap (n : Int) = (n : Int)) := by
    show IntKind.u64.wrap (n : Int) = (n : Int)
    rw [IntKind.wrap_u64]; omega
  go_cut [8] (fun x wx => x = .int .i64 r ∧ Hid (RLx wx B R M fs (.slice a k cap) c S2) ∧ Hid (BelT tyL B X wx))
  case first =>
    go_region_with (first | (go_at_call 61; rw [HU.out]; refine (rfour n _ (by omega)).mono ?_; rintro e w4 ⟨rfl, hb4⟩; have HX4 : Hid (Below X.heap.size X w4) := undrewB hb4; obtain ⟨hc4, hf4⟩ := bcell HX4.out; clear hb4) | (go_at_call 60; refine (rwriteD 1 q (fourB n ++ t) _ B R S m (HP.out.dsk.below HX4.out) (Nat.le_trans HB0.out HX4.out.size) HO.out.1 HO.out.2).mono ?_; rw [HOP'.out]; rintro e w5 ⟨rfl, hp5, hb5⟩))
    all_goals
      go_wp2_with fail
      go_meet
      case rel => exact ⟨rfl, (HP.out.below HX4.out).disk hb5 hp5, (⟨HX4.out.mono HB0.out, fun b hb _ => HX4.out.block b hb⟩ : BelT tyL B X w4).trans hb5.toL⟩
  case rest =>
    obtain ⟨rfl, HL5, HF5⟩ := hcut
    have HB5 : Hid (B ≤ wc.heap.size) := Nat.le_trans HB0.out HF5.out.size
    have HNF : Hid (M < X.heap.size → ¬ farT tyL X M) := fun _ => HP.out.nf
    have HLOW : Hid (B ≤ M) := HP.out.low
    clear c0 c1 c2 c3 c4 c5 hM HP HO HOP HOP' HI
    by_cases hr : r = 0
    · subst hr
      obtain ⟨d0, d1, d2, d3, d4, d5⟩ := HL5.out.cells
      have f1 := HL5.out.unfrozen 1
      have hM5 := HL5.out.lt
      have HRW : Hid (wc.ownsRow B 102 2 (.slice a k cap) k (frsC fs)) := by
        have := HL5.out.row
        rw [← HKK.out] at this
        exact this
      have HLN : Hid ((frsC fs).length = k * 2) := by
        show (frsC fs).length = k * 2
        rw [frsC_len, ← HKK.out]
      have hB5 := HB5.out
      rcases HSL.out with ⟨hv, h0⟩ | ⟨g, cap', hv, hcap⟩
      · injection hv with hv1 _ hv3
        subst hv1 hv3 h0
        have HFS : Hid (fs = []) := List.eq_nil_of_length_eq_zero (by rw [← HKK.out])
        go_wp2_with (at_builtin; (refine wpList_append_lies _ rfl _ _ _ rfl B 102 i0 (.agg #[.int .i64 0, .string ⟨#[]⟩]) 2 24 Tryz.underlying54 hi hz0 hz1 hz2 rfl (by decide) (.slice none 0 0) 0 [] rfl (World.ownsRow_nil _ _ _ _) ⟨wc.heap.size, 0, none⟩ 1 1 [.int .i64 n, .string t] rfl rfl (newsF _ n t) (one_frame n t) (by decide) (by unfold maxLen; omega) (by omega) (by simp; omega) (wc.heap.size + 1) (by simp) ?_))
        intro g2 cap2 w8 hown2 hgrow2 hat2 hlt2
        try simp only [Nat.zero_add, List.nil_append] at hown2
        try simp only [Nat.zero_add]
        have hbe : Below wc.heap.size wc w8 := Below.trans (((Below.refl _ _).alloc (Nat.le_refl _) _) : Below wc.heap.size wc (wc.alloc _)) ⟨hgrow2.os, hgrow2.tape, hgrow2.output, hgrow2.size, fun b hb => hgrow2.block b (by simp; omega) (fun e => by cases e)⟩
        have HBE : Hid (Below wc.heap.size wc w8) := hbe
        have hfr : RLx (w8.setCell ⟨M, 1, none⟩ (.slice (some ⟨g2, 0, none⟩) 1 cap2)) B R M (fs ++ [((n : Int), t)]) (.slice (some ⟨g2, 0, none⟩) 1 cap2) c S2 := by
          refine HL5.out.frames hbe ?_
          rw [HFS.out]
          exact hown2
        have HZ : Hid _ := hfr
        have b1 := (hbe.cell (p := ⟨M, 1, none⟩) hM5).trans d1
        have f8 : w8.frozen? ⟨M, 1, none⟩ = false := (bcell hbe).2 M 1 hM5 |>.trans f1
        have hM8 : M < w8.heap.size := Nat.lt_of_lt_of_le hM5 hbe.size
        have HLT : Hid (BelT tyL B X (w8.setCell ⟨M, 1, none⟩ (.slice (some ⟨g2, 0, none⟩) 1 cap2))) := set_L (HF5.out.trans ⟨hbe.mono hB5, fun b hb _ => hbe.block b hb⟩) HLOW.out HNF.out
        clear hown2 hgrow2 hat2 hbe hfr
        go_wp2
        go_ret
        exact ⟨rfl, ⟨_, HZ.out⟩, HLT.out⟩
      · injection hv with hv1 _ hv3
        subst hv1 hv3
        by_cases h0 : 0 < k
        · go_wp2_with (at_builtin; go_must (refine wpList_append_lies _ rfl _ _ _ rfl B 102 i0 (.agg #[.int .i64 0, .string ⟨#[]⟩]) 2 24 Tryz.underlying54 hi hz0 hz1 hz2 rfl (by decide) _ 0 [] rfl (World.ownsRow_nil _ _ _ _) ⟨g, 0, none⟩ k cap (frsC fs) rfl ?nl ?n0 ?r0 h0 ?r1 ?r2 ?r3 wc.heap.size rfl ?_))
          case nl => exact HLN.out
          case n0 =>
            intro j u hj
            have := lies_frs HRW.out j u hj
            rwa [Addr.add_lit, Nat.zero_add] at this
          case r0 => exact frs_one fs
          case r1 => unfold maxLen; omega
          case r2 => omega
          intro g1 cap1 w6 hown1 hgrow1 hat1 hlt1
          try simp only [Nat.zero_add, List.nil_append] at hown1
          try simp only [Nat.zero_add]
          have HG1 : Hid (g1 = wc.heap.size) := by
            rcases hat1 with h | h
            · cases h
            · exact h
          have HOWN1 : Hid _ := hown1
          have HGR1 : Hid (wc.grownBy w6 none) := hgrow1
          clear hown1 hgrow1 hat1
          have hB6 : B ≤ w6.heap.size := Nat.le_trans hB5 HGR1.out.size
          have hM6 : M < w6.heap.size := Nat.lt_of_lt_of_le hM5 HGR1.out.size
          go_wp2_with (at_builtin; go_must (refine wpList_append_lies _ rfl _ _ _ rfl B 102 i0 (.agg #[.int .i64 0, .string ⟨#[]⟩]) 2 24 Tryz.underlying54 hi hz0 hz1 hz2 rfl (by decide) (.slice (some ⟨g1, 0, none⟩) k cap1) k (frsC fs) rfl (World.ownsRow.alloc HOWN1.out _) ⟨w6.heap.size, 0, none⟩ 1 1 [.int .i64 n, .string t] rfl rfl (newsF _ n t) (one_frame n t) (by decide) (by unfold maxLen; omega) (by omega) (by simp; omega) (w6.heap.size + 1) (by simp) ?_))
          intro g2 cap2 w8 hown2 hgrow2 hat2 hlt2
          have hbe : Below wc.heap.size wc w8 := but_two HGR1.out HG1.out hgrow2
          have HBE : Hid (Below wc.heap.size wc w8) := hbe
          have hfr : RLx (w8.setCell ⟨M, 1, none⟩ (.slice (some ⟨g2, 0, none⟩) (k + 1) cap2)) B R M (fs ++ [((n : Int), t)]) (.slice (some ⟨g2, 0, none⟩) (k + 1) cap2) c S2 := by
            refine HL5.out.frames hbe ?_
            rw [frsC_snoc, List.length_append, ← HKK.out]
            exact hown2
          have HZ : Hid _ := hfr
          have b1 : w8.cell? ⟨M, 1, none⟩ = some (.slice (some ⟨g, 0, none⟩) k cap) := (hbe.cell (p := ⟨M, 1, none⟩) hM5).trans d1
          have f8 : w8.frozen? ⟨M, 1, none⟩ = false := (bcell hbe).2 M 1 hM5 |>.trans f1
          have hM8 : M < w8.heap.size := Nat.lt_of_lt_of_le hM5 hbe.size
          have HLT : Hid (BelT tyL B X (w8.setCell ⟨M, 1, none⟩ (.slice (some ⟨g2, 0, none⟩) (k + 1) cap2))) := set_L (HF5.out.trans ⟨hbe.mono hB5, fun b hb _ => hbe.block b hb⟩) HLOW.out HNF.out
          clear hown2 hgrow2 hat2 hbe hfr
          go_wp2
          go_ret
          exact ⟨rfl, ⟨_, HZ.out⟩, HLT.out⟩
        · obtain rfl : k = 0 := by omega
          have HFS : Hid (fs = []) := List.eq_nil_of_length_eq_zero (by rw [← HKK.out])
          go_wp2_with (at_builtin; (refine wpList_append_lies _ rfl _ _ _ rfl B 102 i0 (.agg #[.int .i64 0, .string ⟨#[]⟩]) 2 24 Tryz.underlying54 hi hz0 hz1 hz2 rfl (by decide) (.slice none 0 0) 0 [] rfl (World.ownsRow_nil _ _ _ _) ⟨wc.heap.size, 0, none⟩ 1 1 [.int .i64 n, .string t] rfl rfl (newsF _ n t) (one_frame n t) (by decide) (by unfold maxLen; omega) (by omega) (by simp; omega) (wc.heap.size + 1) (by simp) ?_))
          intro g2 cap2 w8 hown2 hgrow2 hat2 hlt2
          try simp only [Nat.zero_add, List.nil_append] at hown2
          try simp only [Nat.zero_add]
          have hbe : Below wc.heap.size wc w8 := Below.trans (((Below.refl _ _).alloc (Nat.le_refl _) _) : Below wc.heap.size wc (wc.alloc _)) ⟨hgrow2.os, hgrow2.tape, hgrow2.output, hgrow2.size, fun b hb => hgrow2.block b (by simp; omega) (fun e => by cases e)⟩
          have HBE : Hid (Below wc.heap.size wc w8) := hbe
          have hfr : RLx (w8.setCell ⟨M, 1, none⟩ (.slice (some ⟨g2, 0, none⟩) 1 cap2)) B R M (fs ++ [((n : Int), t)]) (.slice (some ⟨g2, 0, none⟩) 1 cap2) c S2 := by
            refine HL5.out.frames hbe ?_
            rw [HFS.out]
            exact hown2
          have HZ : Hid _ := hfr
          have b1 := (hbe.cell (p := ⟨M, 1, none⟩) hM5).trans d1
          have f8 : w8.frozen? ⟨M, 1, none⟩ = false := (bcell hbe).2 M 1 hM5 |>.trans f1
          have hM8 : M < w8.heap.size := Nat.lt_of_lt_of_le hM5 hbe.size
          have HLT : Hid (BelT tyL B X (w8.setCell ⟨M, 1, none⟩ (.slice (some ⟨g2, 0, none⟩) 1 cap2))) := set_L (HF5.out.trans ⟨hbe.mono hB5, fun b hb _ => hbe.block b hb⟩) HLOW.out HNF.out
          clear hown2 hgrow2 hat2 hbe hfr
          go_wp2
          go_ret
          exact ⟨rfl, ⟨_, HZ.out⟩, HLT.out⟩
    · have hz : (r == 0) = false := by simpa using hr
      go_wp2
      go_ret
      exact ⟨rfl, ⟨_, HL5.out⟩, HF5.out⟩
end Go.Proofs.YtfjkockcgddgbaaGreat
