/- relstoreref.slotOf: what a slot tells -/
import Derived.Test.YtfjkockcgddgbaaGreatMgD
import Derived.Test.YtfjkockcgddgbaaGreatMgA
namespace Go.Proofs.YtfjkockcgddgbaaGreat
open Go.RowKit Go.Lib
attribute [local go_sem ↓] Go.wp_at_zero Go.wp_at_succ
theorem four_back {s : ByteArray} {p : Nat} (hp : p + 4 ≤ s.size) : fourB (numB s p) = s.extract p (p + 4) := by
  have hl := fun i => bytS_lt s (p + i)
  have b0 := hl 0
  have b1 := hl 1
  have b2 := hl 2
  have b3 := hl 3
  have e : numB s p = ((bytS s (p + 0) * 256 + bytS s (p + 1)) * 256 + bytS s (p + 2)) * 256 + bytS s (p + 3) := by
    unfold numB numK numK numK numK numK
    omega
  refine ext_byt (by rw [fourB_size, ByteArray.size_extract]; omega) fun i hi => ?_
  rw [fourB_size] at hi
  rw [byt_cut (by omega) (by omega)]
  rcases (show i = 0 ∨ i = 1 ∨ i = 2 ∨ i = 3 by omega) with rfl | rfl | rfl | rfl
  · show numB s p / 16777216 % 256 = _
    omega
  · show numB s p / 65536 % 256 = _
    omega
  · show numB s p / 256 % 256 = _
    omega
  · show numB s p % 256 = _
    omega
theorem ext_join {s : ByteArray} {a b c : Nat} (h1 : a ≤ b) (h2 : b ≤ c) (h3 : c ≤ s.size) : s.extract a b ++ s.extract b c = s.extract a c := by
  have e1 : (s.extract a b).size = b - a := by rw [ByteArray.size_extract]; omega
  have e2 : (s.extract b c).size = c - b := by rw [ByteArray.size_extract]; omega
  have e3 : (s.extract a c).size = c - a := by rw [ByteArray.size_extract]; omega
  refine ext_byt (by rw [ByteArray.size_append]; omega) fun i hi => ?_
  rw [ByteArray.size_append, e1, e2] at hi
  by_cases h : i < b - a
  · rw [byt_left (by omega), byt_cut (by omega) (by omega), byt_cut (by omega) (by omega)]
  · have hk : i = (s.extract a b).size + (i - (b - a)) := by omega
    rw [hk, byt_right, e1, byt_cut (by omega) (by omega), byt_cut (by omega) (by omega)]
    congr 1
    omega
theorem half_back {s : ByteArray} {q : Nat} (h : q + 12 ≤ s.size) : halfB (numB s q) (numB s (q + 4)) (numB s (q + 8)) = s.extract q (q + 12) := by
  unfold halfB
  rw [four_back (by omega), four_back (by omega), four_back (by omega), ext_join (by omega) (by omega) (by omega), ext_join (by omega) (by omega) (by omega)]
/- the two halves of a slot are one -/
theorem txt_iff {s : ByteArray} {q : Nat} (h : q + 24 ≤ s.size) : txtB (numB s q) (numB s (q + 4)) (numB s (q + 8)) = s.extract q (q + 24) ↔ s.extract q (q + 12) = s.extract (q + 12) (q + 24) := by
  unfold txtB
  rw [half_back (by omega), ← ext_join (a := q) (b := q + 12) (c := q + 24) (by omega) (by omega) h]
  have e1 : (s.extract q (q + 12)).size = 12 := by rw [ByteArray.size_extract]; omega
  have e2 : (s.extract (q + 12) (q + 24)).size = 12 := by rw [ByteArray.size_extract]; omega
  constructor
  · intro k
    refine ext_byt (by omega) fun i hi => ?_
    have := congrArg (fun t => bytS t ((s.extract q (q + 12)).size + i)) k
    rw [byt_right, byt_right] at this
    exact this
  · intro k
    rw [← k]
theorem num_cut {s : ByteArray} {q c p : Nat} (h : q + p + 4 ≤ c) (hc : c ≤ s.size) : numB (s.extract q c) p = numB s (q + p) := num_same fun i hi => by
  rw [byt_cut hc (by omega), Nat.add_assoc]
/- what the whole log's text tells is what its head tells -/
theorem told_head {s : ByteArray} {q slot size : Nat} (hq : q + 24 ≤ 64) : toldA s q slot size = toldA (s.extract 0 64) q slot size := by
  by_cases h : s.size < q + 24
  · have hs : (s.extract 0 64).size < q + 24 := by rw [ByteArray.size_extract]; omega
    unfold toldA
    rw [if_pos h, if_pos hs]
  · have hs : q + 24 ≤ (s.extract 0 64).size := by rw [ByteArray.size_extract]; omega
    have hb : ∀ i, i < q + 24 → bytS (s.extract 0 64) i = bytS s i := fun i hi => by
      unfold bytS
      rw [dif_pos (by omega), dif_pos (by omega), ByteArray.getElem_extract]
      congr 2
      omega
    generalize s.extract 0 64 = t at hs hb
    have hn : ∀ p, p + 4 ≤ q + 24 → numB t p = numB s p := fun p hp => num_same fun i hi => hb _ (by omega)
    have e1 : (t.extract q (q + 24)).size = 24 := by rw [ByteArray.size_extract]; omega
    have e2 : (s.extract q (q + 24)).size = 24 := by rw [ByteArray.size_extract]; omega
    have he : t.extract q (q + 24) = s.extract q (q + 24) := by
      refine ext_byt (e1.trans e2.symm) fun i hi => ?_
      rw [e1] at hi
      rw [byt_cut hs (by omega), byt_cut (by omega) (by omega), hb _ (by omega)]
    unfold toldA
    rw [if_neg h, if_neg (show ¬ t.size < q + 24 by omega), hn q (by omega), hn (q + 4) (by omega), hn (q + 8) (by omega), he]
set_option maxRecDepth 20000 in
set_option maxHeartbeats 1000000 in
theorem rslotOf (s : ByteArray) (k : Nat) (w : World) (hk : k ≤ 1) (_hs : s.size ≤ 67108864) (n f p : Nat) (hT : toldA s (16 + 24 * k) k s.size = ⟨k, n, f, p⟩ ∨ (toldA s (16 + 24 * k) k s.size = cm0 ∧ n = 0 ∧ f = 0 ∧ p = 0)) :
    Calls Tryz.prog 49 #[.string s, .int .i64 k] w fun e w' => e = .returned (.tuple #[.int .i64 n, .int .i64 f, .int .i64 p]) ∧ Below w.heap.size w w' := by
  obtain ⟨q, hq⟩ : ∃ q, q = 16 + 24 * k := ⟨_, rfl⟩
  rw [← hq] at hT
  have a1 : (16 : Int) + 24 * (k : Int) = (q : Int) := by omega
  have a2 : (40 : Int) + 24 * (k : Int) = ((q + 24 : Nat) : Int) := by omega
  by_cases h1 : s.size < q + 24
  · have e0 : toldA s q k s.size = cm0 := by unfold toldA; rw [if_pos h1]
    have hz : n = 0 ∧ f = 0 ∧ p = 0 := by
      rw [e0] at hT
      rcases hT with h | h
      · injection h with _ g2 g3 g4
        exact ⟨g2.symm, g3.symm, g4.symm⟩
      · exact h.2
    obtain ⟨rfl, rfl, rfl⟩ := hz
    have i1 : (s.size : Int) < 40 + 24 * (k : Int) := by omega
    clear hT e0 a1 a2 hq h1
    go_enter Tryz.func49, Tryz.ntmps49
    go_wp2
    go_ret3
    exact ⟨rfl, Below.refl _ _⟩
  · have hlen : q + 24 ≤ s.size := by omega
    obtain ⟨t, ht⟩ : ∃ t, t = s.extract q (q + 24) := ⟨_, rfl⟩
    have st : t.size = 24 := by rw [ht, ByteArray.size_extract]; omega
    have cut0 : ∀ X, (Instr.slice 9 (.string s) (some (.int .i64 (16 + 24 * (k : Int)))) (some (.int .i64 (40 + 24 * (k : Int)))) none).run Tryz.prog X = .ok (.string t) X := fun X => by
      rw [a1, a2, ht]
      exact slice_lit s q (q + 24) (by omega) hlen X
    obtain ⟨t1, h1'⟩ : ∃ t1, t1 = t.extract 0 4 := ⟨_, rfl⟩
    obtain ⟨t2, h2'⟩ : ∃ t1, t1 = t.extract 4 8 := ⟨_, rfl⟩
    obtain ⟨t3, h3'⟩ : ∃ t1, t1 = t.extract 8 12 := ⟨_, rfl⟩
    obtain ⟨u1, g1'⟩ : ∃ t1, t1 = t.extract 0 12 := ⟨_, rfl⟩
    obtain ⟨u2, g2'⟩ : ∃ t1, t1 = t.extract 12 24 := ⟨_, rfl⟩
    have cut1 : ∀ X, (Instr.slice 9 (.string t) none (some (.int .i64 4)) none).run Tryz.prog X = .ok (.string t1) X := fun X => by
      rw [run_slice_string_h X 9 t Tryz.underlying9 .i64 4 (by decide) (by omega), h1']; rfl
    have cut2 : ∀ X, (Instr.slice 9 (.string t) (some (.int .i64 4)) (some (.int .i64 8)) none).run Tryz.prog X = .ok (.string t2) X := fun X => by
      rw [h2']; exact slice_lit t 4 8 (by decide) (by omega) X
    have cut3 : ∀ X, (Instr.slice 9 (.string t) (some (.int .i64 8)) (some (.int .i64 12)) none).run Tryz.prog X = .ok (.string t3) X := fun X => by
      rw [h3']; exact slice_lit t 8 12 (by decide) (by omega) X
    have cut4 : ∀ X, (Instr.slice 9 (.string t) none (some (.int .i64 12)) none).run Tryz.prog X = .ok (.string u1) X := fun X => by
      rw [run_slice_string_h X 9 t Tryz.underlying9 .i64 12 (by decide) (by omega), g1']; rfl
    have cut5 : ∀ X, (Instr.slice 9 (.string t) (some (.int .i64 12)) none none).run Tryz.prog X = .ok (.string u2) X := fun X => by
      rw [run_slice_string_l X 9 t Tryz.underlying9 .i64 12 (by decide) (by omega), g2', st]; rfl
    have z1 : t1.size = 4 := by rw [h1', ByteArray.size_extract]; omega
    have z2 : t2.size = 4 := by rw [h2', ByteArray.size_extract]; omega
    have z3 : t3.size = 4 := by rw [h3', ByteArray.size_extract]; omega
    obtain ⟨n0, hn0⟩ : ∃ n0, n0 = numB s q := ⟨_, rfl⟩
    obtain ⟨f0, hf0⟩ : ∃ n0, n0 = numB s (q + 4) := ⟨_, rfl⟩
    obtain ⟨p0, hp0⟩ : ∃ n0, n0 = numB s (q + 8) := ⟨_, rfl⟩
    have e1 : numB t1 0 = n0 := by
      rw [h1', num_cut (by omega) (by omega), ht, num_cut (by omega) hlen, hn0]
      rfl
    have e2 : numB t2 0 = f0 := by rw [h2', num_cut (by omega) (by omega), ht, num_cut (by omega) hlen, hf0]
    have e3 : numB t3 0 = p0 := by rw [h3', num_cut (by omega) (by omega), ht, num_cut (by omega) hlen, hp0]
    have bn := numB_lt s q
    have bf := numB_lt s (q + 4)
    have bp := numB_lt s (q + 8)
    rw [← hn0] at bn
    rw [← hf0] at bf
    rw [← hp0] at bp
    have hU : (txtB n0 f0 p0 = s.extract q (q + 24)) ↔ u1 = u2 := by
      rw [hn0, hf0, hp0, txt_iff hlen, g1', g2', ht]
      have x1 : (s.extract q (q + 24)).extract 0 12 = s.extract q (q + 12) := by rw [ByteArray.extract_extract]; congr 1; omega
      have x2 : (s.extract q (q + 24)).extract 12 24 = s.extract (q + 12) (q + 24) := by rw [ByteArray.extract_extract]; congr 1; omega
      rw [x1, x2]
    have hA : toldA s q k s.size = if ¬ (1 ≤ n0 ∧ n0 ≤ 3) then cm0 else if ¬ u1 = u2 then cm0 else if 0 < f0 ∧ s.size < 64 + 1028 * f0 then cm0 else ⟨k, n0, f0, p0⟩ := by
      unfold toldA
      rw [if_neg h1, ← hn0, ← hf0, ← hp0]
      simp only [hU]
    have HK1 : ∀ X, Calls Tryz.prog 51 #[.string t1] X fun e w' => e = .returned (.int .u64 (n0 : Nat)) ∧ w' = X := fun X => by rw [← e1]; exact runb t1 X z1
    have HK2 : ∀ X, Calls Tryz.prog 51 #[.string t2] X fun e w' => e = .returned (.int .u64 (f0 : Nat)) ∧ w' = X := fun X => by rw [← e2]; exact runb t2 X z2
    have HK3 : ∀ X, Calls Tryz.prog 51 #[.string t3] X fun e w' => e = .returned (.int .u64 (p0 : Nat)) ∧ w' = X := fun X => by rw [← e3]; exact runb t3 X z3
    have H1 : Hid (∀ X, Calls Tryz.prog 51 #[.string t1] X fun e w' => e = .returned (.int .u64 (n0 : Nat)) ∧ w' = X) := HK1
    have H2 : Hid (∀ X, Calls Tryz.prog 51 #[.string t2] X fun e w' => e = .returned (.int .u64 (f0 : Nat)) ∧ w' = X) := HK2
    have H3 : Hid (∀ X, Calls Tryz.prog 51 #[.string t3] X fun e w' => e = .returned (.int .u64 (p0 : Nat)) ∧ w' = X) := HK3
    have HT : Hid ((if ¬ (1 ≤ n0 ∧ n0 ≤ 3) then cm0 else if ¬ u1 = u2 then cm0 else if 0 < f0 ∧ s.size < 64 + 1028 * f0 then cm0 else ⟨k, n0, f0, p0⟩) = ⟨k, n, f, p⟩ ∨ ((if ¬ (1 ≤ n0 ∧ n0 ≤ 3) then cm0 else if ¬ u1 = u2 then cm0 else if 0 < f0 ∧ s.size < 64 + 1028 * f0 then cm0 else ⟨k, n0, f0, p0⟩) = cm0 ∧ n = 0 ∧ f = 0 ∧ p = 0)) := by
      rw [hA] at hT; exact hT
    have j1 : ¬ (s.size : Int) < 40 + 24 * (k : Int) := by omega
    clear hT hA hU HK1 HK2 HK3 e1 e2 e3 z1 z2 z3 h1' h2' h3' g1' g2' hn0 hf0 hp0 ht st h1 hlen a1 a2 hq
    go_enter Tryz.func49, Tryz.ntmps49
    go_upto_region 4 with fail
    go_quiet (first | (go_at_call_of 51 (Value.string t1); refine Calls.quiet_of_same (H1.out _)) | (go_at_call_of 51 (Value.string t2); refine Calls.quiet_of_same (H2.out _)) | (go_at_call_of 51 (Value.string t3); refine Calls.quiet_of_same (H3.out _)))
    go_upto_region 5 with fail
    have HBw : Hid (Below w.heap.size w (w.drewN nq)) := below_dw (Below.refl _ _)
    generalize w.drewN nq = w1 at HBw ⊢
    clear H1 H2 H3 cut0 cut1 cut2 cut3 j1
    by_cases hu : u1 = u2
    · subst hu
      have hz : (u1.toList == u1.toList) = true := by simp
      have hz' : (u1.toList != u1.toList) = false := by simp
      by_cases hin : 1 ≤ n0 ∧ n0 ≤ 3
      · have HIN : Hid (∀ X, Calls Tryz.prog 56 #[.int .i64 (n0 : Int), .int .i64 1, .int .i64 3] X fun e w' => e = .returned (.bool true) ∧ w' = X) := fun X => by
          have e : (decide ((1 : Int) ≤ n0) && decide ((n0 : Int) ≤ 3)) = true := by simp; omega
          rw [← e]; exact rin n0 1 3 X
        by_cases hff : 0 < f0
        · have k1 : decide ((0 : Int) < (f0 : Int)) = true := decide_eq_true (by omega)
          by_cases hfit : s.size < 64 + 1028 * f0
          · have k2 : decide ((s.size : Int) < 64 + 1028 * (f0 : Int)) = true := decide_eq_true (by omega)
            obtain ⟨rfl, rfl, rfl⟩ : n = 0 ∧ f = 0 ∧ p = 0 := by
              have := HT.out
              rw [if_neg (fun h => h hin), if_neg (fun h => h rfl), if_pos ⟨hff, hfit⟩] at this
              rcases this with h | h
              · injection h with _ g2 g3 g4
                exact ⟨g2.symm, g3.symm, g4.symm⟩
              · exact h.2
            clear HT
            go_quiet (first | (go_at_call 56; refine Calls.quiet_of_same (HIN.out _)))
            go_wp2
            go_ret3
            exact ⟨rfl, below_dw HBw.out⟩
          · have k2 : decide ((s.size : Int) < 64 + 1028 * (f0 : Int)) = false := decide_eq_false (by omega)
            obtain ⟨rfl, rfl, rfl⟩ : n0 = n ∧ f0 = f ∧ p0 = p := by
              have := HT.out
              rw [if_neg (fun h => h hin), if_neg (fun h => h rfl), if_neg (fun h => hfit h.2)] at this
              rcases this with h | h
              · injection h with _ g2 g3 g4
                exact ⟨g2, g3, g4⟩
              · have := h.1
                injection this with _ g2 _ _
                omega
            clear HT
            go_quiet (first | (go_at_call 56; refine Calls.quiet_of_same (HIN.out _)))
            go_wp2
            go_ret3
            exact ⟨rfl, below_dw HBw.out⟩
        · have k1 : decide ((0 : Int) < (f0 : Int)) = false := decide_eq_false (by omega)
          obtain ⟨rfl, rfl, rfl⟩ : n0 = n ∧ f0 = f ∧ p0 = p := by
            have := HT.out
            rw [if_neg (fun h => h hin), if_neg (fun h => h rfl), if_neg (fun h => hff h.1)] at this
            rcases this with h | h
            · injection h with _ g2 g3 g4
              exact ⟨g2, g3, g4⟩
            · have := h.1
              injection this with _ g2 _ _
              omega
          clear HT
          go_quiet (first | (go_at_call 56; refine Calls.quiet_of_same (HIN.out _)))
          go_wp2
          go_ret3
          exact ⟨rfl, below_dw HBw.out⟩
      · have HIN : Hid (∀ X, Calls Tryz.prog 56 #[.int .i64 (n0 : Int), .int .i64 1, .int .i64 3] X fun e w' => e = .returned (.bool false) ∧ w' = X) := fun X => by
          have e : (decide ((1 : Int) ≤ n0) && decide ((n0 : Int) ≤ 3)) = false := by
            rw [← Bool.decide_and]
            exact decide_eq_false (by omega)
          rw [← e]; exact rin n0 1 3 X
        obtain ⟨rfl, rfl, rfl⟩ : n = 0 ∧ f = 0 ∧ p = 0 := by
          have := HT.out
          rw [if_pos hin] at this
          rcases this with h | h
          · injection h with _ g2 g3 g4
            exact ⟨g2.symm, g3.symm, g4.symm⟩
          · exact h.2
        clear HT
        go_quiet (first | (go_at_call 56; refine Calls.quiet_of_same (HIN.out _)))
        go_wp2
        go_ret3
        exact ⟨rfl, below_dw HBw.out⟩
    · have hz : (u1.toList == u2.toList) = false := str_ne hu
      have hz' : (u1.toList != u2.toList) = true := by simp [bne, hz]
      obtain ⟨rfl, rfl, rfl⟩ : n = 0 ∧ f = 0 ∧ p = 0 := by
        have := HT.out
        have e : (if ¬ (1 ≤ n0 ∧ n0 ≤ 3) then cm0 else if ¬ u1 = u2 then cm0 else if 0 < f0 ∧ s.size < 64 + 1028 * f0 then cm0 else ⟨k, n0, f0, p0⟩) = cm0 := by
          split
          · rfl
          · first | rfl | rw [if_pos hu]
        rw [e] at this
        rcases this with h | h
        · injection h with _ g2 g3 g4
          exact ⟨g2.symm, g3.symm, g4.symm⟩
        · exact h.2
      clear HT
      go_quiet (fail)
      go_wp2
      go_ret3
      exact ⟨rfl, below_dw HBw.out⟩
end Go.Proofs.YtfjkockcgddgbaaGreat
