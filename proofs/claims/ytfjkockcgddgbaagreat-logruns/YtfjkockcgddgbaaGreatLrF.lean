/- relstoreref: Append (all cases), Commit, Back, Pages -/
import Derived.Test.YtfjkockcgddgbaaGreatLrE
namespace Go.Proofs.YtfjkockcgddgbaaGreat
open Go.RowKit Go.Lib
attribute [local go_sem ↓] Go.wp_at_zero Go.wp_at_succ
def apF (fs : List (Int × ByteArray)) (r n : Int) (t : ByteArray) : List (Int × ByteArray) := if r = 0 then fs ++ [(n, t)] else fs
set_option maxRecDepth 20000 in
set_option maxHeartbeats 1000000 in
theorem rappend (n : Int) (t : ByteArray) (X : World) (B R M m : Nat) (fs : List (Int × ByteArray)) (c : Cm) (S : DS) (L : LS) (h : RL X B R M fs c S) (hB : B ≤ X.heap.size) (ho : okS S m) (hm : m ≤ 900000) (hf : fs.length ≤ 65536) (hL : L.fr = fs.length) :
    Calls Tryz.prog 15 #[(.pointer (some ⟨M, 0, none⟩)), .int .i64 n, .string t] X fun e w' => e = .returned (.int .i64 (apL L S n t).1) ∧ RL w' B R M (apF fs (apL L S n t).1 n t) c (apL L S n t).2.2 ∧ BelT tyL B X w' := by
  by_cases h1 : isPg n = true
  · have HI : Hid (∀ W, Calls Tryz.prog 56 #[.int .i64 n, .int .i64 0, .int .i64 2147483647] W fun e w' => e = .returned (.bool true) ∧ w' = W) := fun W => by
      have := of_decide_eq_true h1
      have e : (decide ((0 : Int) ≤ n) && decide (n ≤ 2147483647)) = true := by simp; omega
      rw [← e]; exact rin n 0 2147483647 W
    by_cases hs : t.size = 1024
    · by_cases h2 : 67108864 < 64 + 1028 * (fs.length + 1)
      · have e9 : apL L S n t = (8, L, S) := by unfold apL; rw [if_neg (fun h => h ⟨h1, hs⟩), hL, if_pos h2]
        rw [e9]
        obtain ⟨vf, h⟩ := h
        obtain ⟨c0, c1, c2, c3, c4, c5⟩ := h.cells
        have HP : Hid (RLx X B R M fs vf c S) := h
        obtain ⟨k, hk⟩ : ∃ k, k = fs.length := ⟨_, rfl⟩
        obtain ⟨a, cap, rfl⟩ : ∃ a cap, vf = .slice a k cap := by
          rw [hk]
          rcases owns_sliceF h.row with ⟨h1, h2⟩ | ⟨g, cap, h1, h2⟩
          · exact ⟨none, 0, by rw [h1, h2]⟩
          · exact ⟨_, cap, h1⟩
        have k2 : (k : Int) ≤ 65536 := by omega
        have K1 : Hid ((67108864 : Int) < (64 + 1028 * (k : Int)) + 1028) := by
          show (67108864 : Int) < (64 + 1028 * (k : Int)) + 1028
          omega
        have i3 : ((t.size : Int) != 1024) = false := by simp [hs]
        have i4 : (t.size : Int) = 1024 := by omega
        clear h e9 h1 h2 hk hf hL ho
        go_enter Tryz.func15, Tryz.ntmps15
        go_wp2_with fail
        refine (HI.out _).mono ?_
        rintro e w1 ⟨rfl, hw⟩; rw [hw]; clear hw
        go_upto_region 4 with fail
        obtain ⟨q, hq⟩ : ∃ q : Int, q = 64 + 1028 * (k : Int) := ⟨_, rfl⟩
        have q1 : (67108864 : Int) < q + 1028 := by rw [hq]; exact K1.out
        have q2 : q ≤ 134217728 := by omega
        have j1 : decide ((67108864 : Int) < q + 1028) = true := decide_eq_true q1
        rw [← hq]
        clear hq K1
        go_wp2
        go_ret
        exact ⟨rfl, ⟨_, HP.out⟩, BelT.refl _ _ _⟩
      · obtain ⟨n, rfl⟩ := pg_nat h1
        obtain ⟨r, S2, hop⟩ : ∃ r S2, opD S 1 (64 + 1028 * (fs.length : Int)) (fourB n ++ t) false = (r, S2) := ⟨_, _, rfl⟩
        have e9 : apL L S n t = (r, (if r = 0 then { L with fh := updM L.fh n L.fr, fr := L.fr + 1 } else L), S2) := by
          unfold apL
          rw [if_neg (fun h => h ⟨h1, hs⟩), hL, if_neg h2, Int.toNat_natCast, hop]
          by_cases hr : r = 0
          · subst hr; rfl
          · rw [if_neg hr, if_neg hr]
        rw [e9]
        exact rappend0 n t X B R M m fs c S h hB ho hm hf h1 hs h2 r S2 hop
    · have e9 : apL L S n t = (1, L, S) := by unfold apL; rw [if_pos (fun h => hs h.2)]
      rw [e9]
      have i2 : (((t.size : Int)) != 1024) = true := by
        have : ¬ ((t.size : Int)) = 1024 := by omega
        simpa using this
      have i3 : ¬ ((t.size : Int)) = 1024 := by omega
      have HP : Hid (RL X B R M fs c S) := h
      clear h e9 h1 hs ho
      go_enter Tryz.func15, Tryz.ntmps15
      go_wp2_with fail
      refine (HI.out _).mono ?_
      rintro e w1 ⟨rfl, hw⟩; rw [hw]; clear hw
      go_wp2
      go_ret
      exact ⟨rfl, HP.out, BelT.refl _ _ _⟩
  · have e9 : apL L S n t = (1, L, S) := by unfold apL; rw [if_pos (fun h => h1 h.1)]
    rw [e9]
    have HI : Hid (∀ W, Calls Tryz.prog 56 #[.int .i64 n, .int .i64 0, .int .i64 2147483647] W fun e w' => e = .returned (.bool false) ∧ w' = W) := fun W => by
      have e : (decide ((0 : Int) ≤ n) && decide (n ≤ 2147483647)) = false := by
        rw [← Bool.decide_and]
        exact decide_eq_false (fun k => h1 (decide_eq_true k))
      rw [← e]; exact rin n 0 2147483647 W
    have HP : Hid (RL X B R M fs c S) := h
    clear h e9 h1 ho
    go_enter Tryz.func15, Tryz.ntmps15
    go_wp2_with fail
    refine (HI.out _).mono ?_
    rintro e w1 ⟨rfl, hw⟩; rw [hw]; clear hw
    go_wp2
    go_ret
    exact ⟨rfl, HP.out, BelT.refl _ _ _⟩
/- the frames behind a Commit -/
def cmF (L : LS) (S : DS) (fs : List (Int × ByteArray)) (n : Int) (t : ByteArray) (pg : Int) : List (Int × ByteArray) := if 1 ≤ pg ∧ pg ≤ 65536 then apF fs (apL L S n t).1 n t else fs
set_option maxRecDepth 20000 in
set_option maxHeartbeats 1000000 in
theorem rcommit (n : Int) (t : ByteArray) (pg : Int) (X : World) (B R M m : Nat) (fs : List (Int × ByteArray)) (c : Cm) (S : DS) (L : LS) (h : RL X B R M fs c S) (hB : B ≤ X.heap.size) (ho : okS S m) (hm : m ≤ 800000) (hf : fs.length ≤ 65535) (hL : L.fr = fs.length) (hLc : L.last = c) (hc : okCm c) :
    Calls Tryz.prog 17 #[(.pointer (some ⟨M, 0, none⟩)), .int .i64 n, .string t, .int .i64 pg] X fun e w' => e = .returned (.int .i64 (cmL L S n t pg).1) ∧ RL w' B R M (cmF L S fs n t pg) (cmL L S n t pg).2.1.last (cmL L S n t pg).2.2 ∧ BelT tyL B X w' := by
  by_cases hp : 1 ≤ pg ∧ pg ≤ 65536
  · obtain ⟨p, rfl⟩ : ∃ k : Nat, pg = k := ⟨pg.toNat, by omega⟩
    have HI : Hid (∀ W, Calls Tryz.prog 56 #[.int .i64 (p : Int), .int .i64 1, .int .i64 65536] W fun e w' => e = .returned (.bool true) ∧ w' = W) := fun W => by
      have e : (decide ((1 : Int) ≤ p) && decide ((p : Int) ≤ 65536)) = true := by simp; omega
      rw [← e]; exact rin p 1 65536 W
    obtain ⟨r0, L0, S0, h0⟩ : ∃ r L0 S0, apL L S n t = (r, L0, S0) := ⟨_, _, _, rfl⟩
    obtain ⟨r1, S1, h1⟩ : ∃ r S1, synD S0 1 = (r, S1) := ⟨_, _, rfl⟩
    obtain ⟨r2, L2, S2, h2⟩ : ∃ r L2 S2, tlL L0 S1 L0.fr p = (r, L2, S2) := ⟨_, _, _, rfl⟩
    have o0 : okS S0 (m + 1) := by have := apL_ok (L := L) ho n t; rw [h0] at this; exact this
    have o1 : okS S1 (m + 2) := by have := synD_ok o0 1; rw [h1] at this; exact this
    have l0 : L0.last = c := by have := apL_last L S n t; rw [h0] at this; rw [← hLc]; exact this
    have f0 : r0 = 0 → L0.fr = fs.length + 1 := fun hr => by
      have : apL L S n t = (0, L0, S0) := by rw [h0, hr]
      unfold apL at this
      split at this
      · injection this with h _; cases h
      · split at this
        · injection this with h _; cases h
        · split at this
          · injection this with _ h
            injection h with h _
            rw [← h]
            show L.fr + 1 = _
            omega
          · rename_i hne
            injection this with h _
            exact absurd h hne
    have e9 : cmL L S n t p = (if r0 = 0 then (if r1 = 0 then (if r2 = 0 then (0, { L2 with pl := mrg L.pl L0.fh, fh := fun _ => none }, S2) else (r2, L2, S2)) else (r1, L0, S1)) else (r0, L0, S0)) := by
      unfold cmL
      rw [if_neg (fun h => h hp), h0]
      dsimp only
      rw [h1, Int.toNat_natCast]
      dsimp only
      rw [h2]
      by_cases k0 : r0 = 0
      · subst k0
        by_cases k1 : r1 = 0
        · subst k1
          by_cases k2 : r2 = 0
          · subst k2; rfl
          · simp [k2]
        · simp [k1]
      · simp [k0]
    have e8 : cmF L S fs n t p = apF fs r0 n t := by unfold cmF; rw [if_pos hp, h0]
    rw [e9, e8]
    have hA := rappend n t X B R M m fs c S L h hB ho (by omega) (by omega) hL
    rw [h0] at hA
    have HA : Hid (Calls Tryz.prog 15 #[(.pointer (some ⟨M, 0, none⟩)), .int .i64 n, .string t] X fun e w' => e = .returned (.int .i64 r0) ∧ RL w' B R M (apF fs r0 n t) c S0 ∧ BelT tyL B X w') := hA
    have H1 : Hid (synD S0 1 = (r1, S1)) := h1
    have H2 : Hid (tlL L0 S1 L0.fr p = (r2, L2, S2)) := h2
    have HB0 : Hid (B ≤ X.heap.size) := hB
    have HO : Hid ((okS S0 (m + 1) ∧ m + 1 ≤ 1000000) ∧ (okS S1 (m + 2) ∧ m + 2 ≤ 900000)) := (⟨⟨o0, by omega⟩, ⟨o1, by omega⟩⟩ : (okS S0 (m + 1) ∧ m + 1 ≤ 1000000) ∧ (okS S1 (m + 2) ∧ m + 2 ≤ 900000))
    have HC : Hid (okCm c) := hc
    have HL0 : Hid (L0.last = c) := l0
    have HF0 : Hid (r0 = 0 → L0.fr = fs.length + 1) := f0
    have HPP : Hid (p ≤ 65536 ∧ fs.length ≤ 65535) := (⟨by omega, hf⟩ : p ≤ 65536 ∧ fs.length ≤ 65535)
    clear h hB ho hm hf hL hLc hc h0 h1 h2 o0 o1 l0 f0 e9 e8 hA hp
    go_enter Tryz.func17, Tryz.ntmps17
    go_wp2_with fail
    refine (HI.out _).mono ?_
    rintro e w1 ⟨rfl, hw⟩; rw [hw]; clear hw
    go_wp2_with fail
    refine HA.out.mono ?_
    rintro e w2 ⟨rfl, hr2, hb2⟩
    have HR2 : Hid (RL w2 B R M (apF fs r0 n t) c S0) := hr2
    have HB2 : Hid (BelT tyL B X w2) := hb2
    clear hr2 hb2 HA HI
    by_cases k0 : r0 = 0
    · subst k0
      have HF1 : Hid (L0.fr = fs.length + 1) := HF0.out rfl
      clear HF0
      obtain ⟨vf, hx⟩ := HR2.out
      obtain ⟨d0, d1, d2, d3, d4, d5⟩ := hx.cells
      have hM2 := hx.lt
      clear hx
      go_wp2_with fail
      refine (rsyncD 1 w2 B R S0 (m + 1) HR2.out.dsk (Nat.le_trans HB0.out HB2.out.size) HO.out.1.1 HO.out.1.2).mono ?_
      rw [H1.out]
      rintro e w3 ⟨rfl, hp3, hb3⟩
      have HB3 : Hid (BelT tyL B X w3) := HB2.out.trans hb3.toL
      have HR3 : Hid (RL w3 B R M (apF fs 0 n t) c S1) := by
        obtain ⟨vf, hx⟩ := HR2.out
        exact ⟨vf, hx.disk hb3 hp3⟩
      clear hp3 hb3 d0 d1 d2 d3 d4 d5 hM2 HR2 HB2
      by_cases k1 : r1 = 0
      · subst k1
        obtain ⟨vf, hx⟩ := HR3.out
        obtain ⟨d0, d1, d2, d3, d4, d5⟩ := hx.cells
        have hM3 := hx.lt
        have hlen : (apF fs 0 n t).length = L0.fr := by
          unfold apF
          rw [if_pos rfl, List.length_append, HF1.out]
          rfl
        obtain ⟨k, hk⟩ : ∃ k, k = L0.fr := ⟨_, rfl⟩
        obtain ⟨a, cap, rfl⟩ : ∃ a cap, vf = .slice a k cap := by
          rw [hk, ← hlen]
          rcases owns_sliceF hx.row with ⟨h1, h2⟩ | ⟨g, cap, h1, h2⟩
          · exact ⟨none, 0, by rw [h1, h2]⟩
          · exact ⟨_, cap, h1⟩
        have HT := rtell k p w3 B R M (m + 2) (apF fs 0 n t) c S1 HR3.out (Nat.le_trans HB0.out HB3.out.size) HO.out.2.1 HO.out.2.2 HC.out (by rw [hk, HF1.out]; have := HPP.out.2; omega) (by have := HPP.out.1; omega) L0 HL0.out
        rw [hk, H2.out, ← hk] at HT
        have HTT : Hid (Calls Tryz.prog 65 #[(.pointer (some ⟨M, 0, none⟩)), .int .i64 k, .int .i64 p] w3 fun e w' => e = .returned (.int .i64 r2) ∧ RL w' B R M (apF fs 0 n t) L2.last S2 ∧ BelT tyL B w3 w') := HT
        clear hx hlen HT hk
        go_wp2_with fail
        refine HTT.out.mono ?_
        rintro e w4 ⟨rfl, hr4, hb4⟩
        have HB4 : Hid (BelT tyL B X w4) := HB3.out.trans hb4
        have HR4 : Hid (RL w4 B R M (apF fs 0 n t) L2.last S2) := hr4
        clear hr4 hb4 HTT
        by_cases k2 : r2 = 0
        · subst k2
          go_wp2
          go_ret
          exact ⟨rfl, HR4.out, HB4.out⟩
        · go_wp2
          go_ret
          exact ⟨rfl, HR4.out, HB4.out⟩
      · have hz : (r1 == 0) = false := by simpa using k1
        go_wp2
        go_ret
        exact ⟨rfl, by rw [HL0.out]; exact HR3.out, HB3.out⟩
    · have hz : (r0 == 0) = false := by simpa using k0
      go_wp2
      go_ret
      exact ⟨rfl, by rw [HL0.out]; exact HR2.out, HB2.out⟩
  · have e9 : cmL L S n t pg = (1, L, S) := by unfold cmL; rw [if_pos hp]
    have e8 : cmF L S fs n t pg = fs := by unfold cmF; rw [if_neg hp]
    rw [e9, e8]
    have HI : Hid (∀ W, Calls Tryz.prog 56 #[.int .i64 pg, .int .i64 1, .int .i64 65536] W fun e w' => e = .returned (.bool false) ∧ w' = W) := fun W => by
      have e : (decide ((1 : Int) ≤ pg) && decide (pg ≤ 65536)) = false := by
        rw [← Bool.decide_and]
        exact decide_eq_false hp
      rw [← e]; exact rin pg 1 65536 W
    have HP : Hid (RL X B R M fs L.last S) := by rw [hLc]; exact h
    clear h e9 e8 hp ho hc
    go_enter Tryz.func17, Tryz.ntmps17
    go_wp2_with fail
    refine (HI.out _).mono ?_
    rintro e w1 ⟨rfl, hw⟩; rw [hw]; clear hw
    go_wp2
    go_ret
    exact ⟨rfl, HP.out, BelT.refl _ _ _⟩
end Go.Proofs.YtfjkockcgddgbaaGreat
