/- The contract of relstorekeep.PageWhole. -/
import Derived.Test.YtohdfohnajifaabPage9
namespace Go.Proofs.Ytohdfohnajifaab
open Go.RowKit
attribute [local go_sem ↓] Go.wp_at_zero Go.wp_at_succ

/- the bytes of a text in memory -/
def By (W : World) (g : Nat) (s : ByteArray) : Prop := g < W.heap.size ∧ ∀ j, j < 1024 → W.cell? ⟨g, j, none⟩ = some (.int .u8 (byt s j)) ∧ W.frozen? ⟨g, j, none⟩ = false
theorem bytes_of (s : ByteArray) (W : World) (hs : s.size = 1024) : ∃ c W', (convert 9 72 (.string s)).run Try.prog W = .ok (.slice (some ⟨W.heap.size, 0, none⟩) 1024 c) W' ∧ By W' W.heap.size s ∧ Below W.heap.size W W' := by
  have h := run_bytes_of_string (P := Try.prog) W 9 72 5 s Try.underlying9 Try.underlying72 Try.underlying5
  rw [hs] at h
  refine ⟨_, _, h, ⟨by simp, fun j hj => ?_⟩, ((Below.refl _ _).drew).alloc (Nat.le_refl _) _⟩
  have hj' : j < s.data.size := by
    have : s.data.size = s.size := rfl
    omega
  constructor
  · have := World.cell?_alloc_mark W.drew (bytesRow s (grownCap W 1024 0 5)) 5 ((bytesRow s (grownCap W 1024 0 5)).size, (bytesRow s (grownCap W 1024 0 5)).size + 1) j
    refine this.trans ?_
    rw [bytesRow_at s _ j hj', ← byt_get (show j < s.size from hj')]
    rfl
  · have := World.frozen?_alloc_mark W.drew (bytesRow s (grownCap W 1024 0 5)) 5 (bytesRow s (grownCap W 1024 0 5)).size ((bytesRow s (grownCap W 1024 0 5)).size + 1) j
    refine this.trans ?_
    have hz : s.data.size ≤ (bytesRow s (grownCap W 1024 0 5)).size := by
      unfold bytesRow
      simp
    rw [decide_eq_false (by omega)]
    rfl

/- a text with another byte at one place -/
def oth (s : ByteArray) (j x : Nat) : ByteArray := ⟨(s.data.toList.set j (UInt8.ofNat x)).toArray⟩
theorem oth_size (s : ByteArray) (j x : Nat) : (oth s j x).size = s.size := by
  unfold oth
  rw [size_mk, List.length_set]
  rfl
theorem oth_byt {s : ByteArray} {j x : Nat} (hj : j < s.size) (hx : x < 256) (i : Nat) : byt (oth s j x) i = if i = j then x else byt s i := by
  have e : s = ⟨s.data.toList.toArray⟩ := by cases s; simp
  unfold oth
  rw [byt_mk, vw_set (show j < s.data.toList.length from hj)]
  split
  · simp; omega
  · rw [← byt_mk]
theorem By.text {W : World} {g : Nat} {s : ByteArray} (hs : s.size = 1024) (h : By W g s) (c : Nat) : (convert 72 9 (.slice (some ⟨g, 0, none⟩) 1024 c)).run Try.prog W = .ok (.string s) W := by
  have hl : s.data.toList.length = 1024 := hs
  have e : s = ⟨s.data.toList.toArray⟩ := by cases s; simp
  have := run_convert_bytes_back (P := Try.prog) W 72 9 5 ⟨g, 0, none⟩ c s.data.toList Try.underlying72 Try.underlying5 Try.underlying9 (fun j hj => by
    rw [Addr.add_lit, Nat.zero_add, (h.2 j (by omega)).1]
    have hj' : j < s.size := hj
    rw [← byt_get hj']
    rfl)
  rw [hl] at this
  rw [this, ← e]
theorem By.set {W : World} {g : Nat} {s : ByteArray} (hs : s.size = 1024) (h : By W g s) {j x : Nat} (hj : j < 1024) (hx : x < 256) : By (W.setCell ⟨g, j, none⟩ (.int .u8 (x : Nat))).drew g (oth s j x) := by
  refine ⟨by simpa using h.1, fun i hi => ?_⟩
  obtain ⟨h1, h2⟩ := h.2 i hi
  rw [oth_byt (by omega) hx]
  refine ⟨?_, by simpa using h2⟩
  show (W.setCell ⟨g, j, none⟩ (.int .u8 (x : Nat))).cell? ⟨g, i, none⟩ = _
  by_cases e : i = j
  · subst e
    rw [if_pos rfl]
    exact World.cell?_setCell_same _ _ _ h1
  · rw [if_neg e]
    exact (World.cell?_setCell_other W ⟨g, j, none⟩ ⟨g, i, none⟩ _ (by simp <;> omega)).trans h1
theorem xor_ne (a b : Nat) (hb : b ≠ 0) : a ^^^ b ≠ a := by
  intro h
  apply hb
  have : a ^^^ (a ^^^ b) = a ^^^ a := by rw [h]
  rwa [← Nat.xor_assoc, Nat.xor_self, Nat.zero_xor] at this
theorem xor_byte (a d : Nat) (ha : a < 256) (hd : d < 255) : bits .xor .u8 (a : Int) (IntKind.u8.wrap (IntKind.i64.wrap (1 + (d : Int)))) = ((a ^^^ (1 + d) : Nat) : Int) := by
  have e1 : IntKind.i64.wrap (1 + (d : Int)) = ((1 + d : Nat) : Int) := wrap_i64n (1 + d) (by omega)
  have e2 : IntKind.u8.wrap ((1 + d : Nat) : Int) = ((1 + d : Nat) : Int) := by rw [IntKind.wrap_u8']; omega
  rw [e1, e2]
  exact u8_xor_nat a (1 + d) ha (by omega)

set_option maxRecDepth 20000 in
set_option maxHeartbeats 1000000 in
theorem cwhole_bad (K Lk : Int) (a : Option Addr) (n cap : Nat) (S : Nat → ByteArray) (x y : Int) (w : World) (h : StA w a n S) (hn : 4 * n + len S n ≤ 1099511627776) (hbad : ¬ ((1 ≤ K ∧ K ≤ 5 ∧ 0 ≤ Lk ∧ Lk ≤ 2147483647) ∧ 4 * n + len S n ≤ 1012)) :
    Calls Try.prog 8 #[.agg #[.int .i64 K, .int .i64 Lk, .slice a n cap], .int .i64 x, .int .i64 y] w fun e w' => e = .returned (.bool true) ∧ Below w.heap.size w w' := by
  have HS : Hid (∀ W, Below w.heap.size w W → StA W a n S) := fun W hb => h.below hb
  have HN : Hid _ := hbad
  clear h hbad
  go_enter Try.func8, Try.ntmps8
  go_wp2_with fail
  refine (cseal K Lk a n cap S _ (HS.out _ ((Below.refl _ _).alloc (Nat.le_refl _) _)) hn).mono ?_
  rintro e W1 ⟨h, hb1⟩
  have HB : Hid (Below w.heap.size w W1) := keepBelow ((Below.refl _ _).alloc (Nat.le_refl _) _) hb1
  clear hb1
  rcases h with ⟨rfl, h1⟩ | ⟨rfl, h1, h2⟩ | ⟨rfl, h1, h2⟩
  · clear h1
    go_wp2_with fail
    refine (cseal_ok 1 0 none 0 0 (fun _ => ⟨#[]⟩) _ (.inl rfl) (by omega) (by omega) (by decide)).mono ?_
    rintro e W2 ⟨rfl, hb2⟩
    have HB2 : Hid (Below w.heap.size w W2) := keepBelow HB.out hb2
    clear hb2
    go_wp2
    go_ret
    exact ⟨rfl, HB2.out⟩
  · clear h1 h2
    go_wp2_with fail
    refine (cseal_ok 1 0 none 0 0 (fun _ => ⟨#[]⟩) _ (.inl rfl) (by omega) (by omega) (by decide)).mono ?_
    rintro e W2 ⟨rfl, hb2⟩
    have HB2 : Hid (Below w.heap.size w W2) := keepBelow HB.out hb2
    clear hb2
    go_wp2
    go_ret
    exact ⟨rfl, HB2.out⟩
  · exact absurd ⟨h1, h2⟩ HN.out

set_option maxRecDepth 20000 in
set_option maxHeartbeats 1000000 in
theorem cwhole_ok (K Lk : Nat) (a : Option Addr) (n cap : Nat) (S : Nat → ByteArray) (x y : Int) (w : World) (h : StA w a n S) (hK : 1 ≤ K ∧ K ≤ 5) (hL : Lk ≤ 2147483647) (hn : 4 * n + len S n ≤ 1012) (hx : -9223372036854775808 ≤ x ∧ x ≤ 9223372036854775807) (hy : -9223372036854775808 ≤ y ∧ y ≤ 9223372036854775807) :
    Calls Try.prog 8 #[.agg #[.int .i64 K, .int .i64 Lk, .slice a n cap], .int .i64 x, .int .i64 y] w fun e w' => e = .returned (.bool true) ∧ Below w.heap.size w w' := by
  have HS : Hid (∀ W, Below w.heap.size w W → StA W a n S) := fun W hb => h.below hb
  have HL : Hid ((⟨(sealed K Lk n S).toArray⟩ : ByteArray).size = 1024) := (size_mk _).trans (sealed_len hn)
  have HG : Hid _ := sealed_good hK hL hn
  have HK : Hid _ := sealed_kind (K := K) (Lk := Lk) hn hK.2
  have HK2 : Hid _ := sealed_link (K := K) (Lk := Lk) hn hL
  have HC : Hid _ := sealed_cls (K := K) (Lk := Lk) hn
  clear h
  go_enter Try.func8, Try.ntmps8
  go_wp2_with fail
  refine (cseal_ok K Lk a n cap S _ (HS.out _ ((Below.refl _ _).alloc (Nat.le_refl _) _)) hK hL hn).mono ?_
  rintro e W1 ⟨rfl, hb1⟩
  obtain ⟨hc1, hf1⟩ := bcell hb1
  have p0 : W1.cell? ⟨w.heap.size, 0, none⟩ = some (.int .i64 K) := by rw [hc1 _ _ (by simp)]; go_simp
  have p1 : W1.cell? ⟨w.heap.size, 1, none⟩ = some (.int .i64 Lk) := by rw [hc1 _ _ (by simp)]; go_simp
  have p2 : W1.cell? ⟨w.heap.size, 2, none⟩ = some (.slice a n cap) := by rw [hc1 _ _ (by simp)]; go_simp
  have zW : w.heap.size < W1.heap.size := keepSize hb1 (by simp)
  have HB : Hid (Below w.heap.size w W1) := keepBelow ((Below.refl _ _).alloc (Nat.le_refl _) _) hb1
  clear hb1 hc1 hf1
  generalize (⟨(sealed K Lk n S).toArray⟩ : ByteArray) = s at *
  go_wp2_with fail
  refine (copen s W1 HL.out).mono ?_
  rintro e W2 ⟨h, hb2⟩
  rcases h with ⟨-, v, rfl, ho⟩ | ⟨h, -⟩
  case inr => exact absurd HG.out h
  rw [HK.out, HK2.out]
  rw [HC.out] at ho
  have hl : ((List.range n).map S).length = n := by simp
  rw [hl] at ho
  obtain ⟨qa, qc, rfl, hst⟩ := sta_own ho
  have q0 := keepCell hb2 zW p0
  have q1 := keepCell hb2 zW p1
  have q2 := keepCell hb2 zW p2
  have zW2 : w.heap.size < W2.heap.size := keepSize hb2 zW
  have HB2 : Hid (Below w.heap.size w W2) := keepBelow HB.out hb2
  have HQ : Hid (StA W2 qa n (tx ((List.range n).map S))) := hst
  clear ho hb2 p0 p1 p2 zW HB hst
  go_wp2_with fail
  have hbV : Below W2.heap.size W2 (W2.alloc (.cells #[.int .i64 K, .int .i64 Lk, .slice qa n qc] 57)) := (Below.refl _ _).alloc (Nat.le_refl _) _
  have v2 : (W2.alloc (.cells #[.int .i64 K, .int .i64 Lk, .slice qa n qc] 57)).cell? ⟨W2.heap.size, 2, none⟩ = some (.slice qa n qc) := (Bx3.new W2 _ _ _).c2
  have r2 := keepCell hbV zW2 q2
  have HSv : Hid (StA (W2.alloc (.cells #[.int .i64 K, .int .i64 Lk, .slice qa n qc] 57)) a n S) := (HS.out _ (keepBelow HB2.out hbV))
  have HQv : Hid (StA (W2.alloc (.cells #[.int .i64 K, .int .i64 Lk, .slice qa n qc] 57)) qa n (tx ((List.range n).map S))) := HQ.out.below hbV
  have HBv : Hid (Below w.heap.size w (W2.alloc (.cells #[.int .i64 K, .int .i64 Lk, .slice qa n qc] 57))) := keepBelow HB2.out hbV
  clear hbV q0 q1 q2 HB2 HQ
  generalize W2.alloc (.cells #[.int .i64 K, .int .i64 Lk, .slice qa n qc] 57) = V at *
  go_loopw [73] (fun y X => ∃ k : Nat, y = .int .i64 k ∧ k ≤ n ∧ ∃ nq, X = V.drewN nq) (fun y _ => n - (intOf y).toNat)
  case atStart => exact ⟨0, rfl, Nat.zero_le _, 0, rfl⟩
  case round =>
    obtain ⟨k, rfl, hk, nq, rfl⟩ := hrel
    by_cases h0 : k < n
    · obtain ⟨b1, o1, rfl, -, hc1⟩ : ∃ b off, a = some ⟨b, off, none⟩ ∧ b < V.heap.size ∧ ∀ j, j < n → V.cell? ⟨b, off + j, none⟩ = some (.string (S j)) := by
        rcases HSv.out with h | h
        · omega
        · exact h
      obtain ⟨b2, o2, rfl, -, hc2⟩ : ∃ b off, qa = some ⟨b, off, none⟩ ∧ b < V.heap.size ∧ ∀ j, j < n → V.cell? ⟨b, off + j, none⟩ = some (.string (tx ((List.range n).map S) j)) := by
        rcases HQv.out with h | h
        · omega
        · exact h
      have c1 := hc1 k h0
      have c2 := hc2 k h0
      rw [tx_range S h0] at c2
      have i0 : (0 : Int) ≤ (k : Int) := by omega
      have i1 : (k : Int) < (n : Int) := by omega
      clear hc1 hc2
      go_wp2_with fail
      go_quiet (fail)
      go_wp2
      go_roundw
      case rel => exact ⟨k + 1, by go_num, by omega, _, rfl⟩
      case measure => simp [intOf]; omega
    · obtain rfl : k = n := by omega
      obtain ⟨cb, V', hcv, hby, hbV'⟩ := bytes_of s (V.drewN nq) HL.out
      have ZV : Hid (w.heap.size ≤ V.heap.size) := Below.size HBv.out
      have HBv' : Hid (Below w.heap.size w V') := keepBelow (below_drewN HBv.out nq) hbV'
      have HY : Hid (By V' V.heap.size s) := hby
      clear hby hbV' HBv HQv HSv v2 r2
      go_wp2_with fail
      clear hcv
      obtain ⟨j, hj⟩ := Int.eq_ofNat_of_zero_le (show 0 ≤ pk x 1024 from Int.emod_nonneg _ (by decide))
      obtain ⟨d, hd⟩ := Int.eq_ofNat_of_zero_le (show 0 ≤ pk y 255 from Int.emod_nonneg _ (by decide))
      have hj1 : j < 1024 := by
        have : pk x 1024 < 1024 := Int.emod_lt_of_pos _ (by decide)
        omega
      have hd1 : d < 255 := by
        have : pk y 255 < 255 := Int.emod_lt_of_pos _ (by decide)
        omega
      have HJ : Hid (pk x 1024 = (j : Int)) := hj
      have HD : Hid (pk y 255 = (d : Int)) := hd
      have HXX : Hid _ := hx
      have HYY : Hid _ := hy
      obtain ⟨y0, y1⟩ := HY.out.2 j hj1
      have j0 : (0 : Int) ≤ (j : Int) := by omega
      have j1 : (j : Int) < 1024 := by omega
      have HX8 : Hid _ := xor_byte (byt s j) d (byt_lt s j) hd1
      clear hj hd hx hy
      go_region_with (first | (go_at_call_of 42 (Value.int IntKind.i64 x); refine (cpick x 1024 _ HXX.out (by decide) (by decide)).mono ?_; rintro e w' ⟨rfl, rfl⟩; rw [HJ.out]) | (go_at_call_of 42 (Value.int IntKind.i64 y); refine (cpick y 255 _ HYY.out (by decide) (by decide)).mono ?_; rintro e w' ⟨rfl, rfl⟩; rw [HD.out]))
      all_goals
        rw [HX8.out]
        have hxl : byt s j ^^^ (1 + d) < 256 := Nat.xor_lt_two_pow (n := 8) (byt_lt s j) (by omega)
        have hY2 := HY.out.set HL.out hj1 hxl
        have hcv := hY2.text ((oth_size _ _ _).trans HL.out) cb
        have HNG : Hid (¬ good (oth s j (byt s j ^^^ (1 + d)))) := by
          have hjs : j < s.size := by have := HL.out; omega
          refine not_good HL.out ((oth_size _ _ _).trans HL.out) HG.out hj1 ?_ ?_
          · rw [oth_byt hjs hxl, if_pos rfl]
            exact (xor_ne _ _ (by omega)).symm
          · intro i hi
            rw [oth_byt hjs hxl, if_neg hi]
        have HOZ : Hid ((oth s j (byt s j ^^^ (1 + d))).size = 1024) := (oth_size _ _ _).trans HL.out
        have zV : w.heap.size ≤ V.heap.size := ZV.out
        have HB3 : Hid (Below w.heap.size w (V'.setCell ⟨V.heap.size, j, none⟩ (.int .u8 ((byt s j ^^^ (1 + d) : Nat) : Int))).drew) := (HBv'.out.setCell zV _).drew
        clear hY2 HY y0 y1
        generalize (V'.setCell ⟨V.heap.size, j, none⟩ (.int .u8 ((byt s j ^^^ (1 + d) : Nat) : Int))).drew = U at *
        generalize oth s j (byt s j ^^^ (1 + d)) = t at *
        go_wp2_with fail
        refine (copen t U HOZ.out).mono ?_
        rintro e W4 ⟨h, hb4⟩
        rcases h with ⟨h, -⟩ | ⟨-, rfl⟩
        · exact absurd h HNG.out
        have HB4 : Hid (Below w.heap.size w W4) := keepBelow HB3.out hb4
        clear hb4
        go_wp2
        go_ret
        exact ⟨rfl, HB4.out⟩

theorem cwhole (K Lk : Int) (a : Option Addr) (n cap : Nat) (S : Nat → ByteArray) (x y : Int) (w : World) (h : StA w a n S) (hn : 4 * n + len S n ≤ 1099511627776) (hx : -9223372036854775808 ≤ x ∧ x ≤ 9223372036854775807) (hy : -9223372036854775808 ≤ y ∧ y ≤ 9223372036854775807) :
    Calls Try.prog 8 #[.agg #[.int .i64 K, .int .i64 Lk, .slice a n cap], .int .i64 x, .int .i64 y] w fun e w' => e = .returned (.bool true) ∧ Below w.heap.size w w' := by
  by_cases hg : (1 ≤ K ∧ K ≤ 5 ∧ 0 ≤ Lk ∧ Lk ≤ 2147483647) ∧ 4 * n + len S n ≤ 1012
  · obtain ⟨k, rfl⟩ := Int.eq_ofNat_of_zero_le (show 0 ≤ K by omega)
    obtain ⟨lk, rfl⟩ := Int.eq_ofNat_of_zero_le (show 0 ≤ Lk by omega)
    exact cwhole_ok k lk a n cap S x y w h (by omega) (by omega) hg.2 hx hy
  · exact cwhole_bad K Lk a n cap S x y w h hn hg
end Go.Proofs.Ytohdfohnajifaab
