/- The contract of relstorelaw.PageSeals. -/
import Derived.Test.YthimnpobcfkghaaPageR5
namespace Go.Proofs.Ythimnpobcfkghaa
open Go.RowKit
attribute [local go_sem ↓] Go.wp_at_zero Go.wp_at_succ

/- what Seal answers -/
def sOk (K Lk : Int) : Prop := 1 ≤ K ∧ K ≤ 5 ∧ 0 ≤ Lk ∧ Lk ≤ 2147483647
def sOkD (K Lk : Int) : Decidable (sOk K Lk) := by unfold sOk; exact inferInstance
def sE (K Lk : Int) (n : Nat) (S : Nat → ByteArray) : Int := haveI := sOkD K Lk; if ¬ sOk K Lk then 1 else if 1012 < 4 * n + len S n then 5 else 0
def sS (K Lk : Int) (n : Nat) (S : Nat → ByteArray) : ByteArray := haveI := sOkD K Lk; if ¬ sOk K Lk then ⟨#[]⟩ else if 1012 < 4 * n + len S n then ⟨#[]⟩ else ⟨(sealed K.toNat Lk.toNat n S).toArray⟩
theorem seal_same {e : Ending} {K Lk : Int} {n : Nat} {S : Nat → ByteArray} (h : (e = .returned (.tuple #[.string ⟨#[]⟩, .int .i64 1]) ∧ ¬ (1 ≤ K ∧ K ≤ 5 ∧ 0 ≤ Lk ∧ Lk ≤ 2147483647)) ∨
       (e = .returned (.tuple #[.string ⟨#[]⟩, .int .i64 5]) ∧ (1 ≤ K ∧ K ≤ 5 ∧ 0 ≤ Lk ∧ Lk ≤ 2147483647) ∧ 1012 < 4 * n + len S n) ∨
       (e = .returned (.tuple #[.string ⟨(sealed K.toNat Lk.toNat n S).toArray⟩, .int .i64 0]) ∧ (1 ≤ K ∧ K ≤ 5 ∧ 0 ≤ Lk ∧ Lk ≤ 2147483647) ∧ 4 * n + len S n ≤ 1012)) : e = .returned (.tuple #[.string (sS K Lk n S), .int .i64 (sE K Lk n S)]) := by
  unfold sS sE
  rcases h with ⟨rfl, h⟩ | ⟨rfl, h1, h2⟩ | ⟨rfl, h1, h2⟩
  · have hn : ¬ sOk K Lk := h
    rw [if_pos hn, if_pos hn]
  · have hn : ¬ ¬ sOk K Lk := not_not_intro h1
    rw [if_neg hn, if_neg hn, if_pos h2, if_pos h2]
  · have hn : ¬ ¬ sOk K Lk := not_not_intro h1
    rw [if_neg hn, if_neg hn, if_neg (by omega), if_neg (by omega)]
theorem csealD (K Lk : Int) (a : Option Addr) (n cap : Nat) (S : Nat → ByteArray) (w : World) (h : StA w a n S) (hn : len S n + n ≤ 1048576) :
    Calls Try.prog 26 #[.agg #[.int .i64 K, .int .i64 Lk, .slice a n cap]] w fun e w' => e = .returned (.tuple #[.string (sS K Lk n S), .int .i64 (sE K Lk n S)]) ∧ Below w.heap.size w w' :=
  (cseal K Lk a n cap S w h (by omega)).mono fun e w' ⟨h, hb⟩ => ⟨seal_same h, hb⟩
theorem rsealD (K Lk : Int) (a : Option Addr) (n cap : Nat) (S : Nat → ByteArray) (w : World) (h : StA w a n S) (hn : len S n + n ≤ 1048576) :
    Calls Try.prog 29 #[.agg #[.int .i64 K, .int .i64 Lk, .slice a n cap]] w fun e w' => e = .returned (.tuple #[.string (sS K Lk n S), .int .i64 (sE K Lk n S)]) ∧ Below w.heap.size w w' :=
  (rseal K Lk a n cap S w h (by omega)).mono fun e w' ⟨h, hb⟩ => ⟨seal_same h, hb⟩

/- what Open answers -/
def gS (s : ByteArray) : Prop := s.size = 1024 ∧ good s
def gSD (s : ByteArray) : Decidable (gS s) := by unfold gS good; exact inferInstance
def oX (s : ByteArray) : Int := haveI := gSD s; if gS s then (byt s 4 : Nat) else 0
def oY (s : ByteArray) : Int := haveI := gSD s; if gS s then (four s 8 : Nat) else 0
def oM (s : ByteArray) : Nat := haveI := gSD s; if gS s then (cls s).length else 0
def oZ (s : ByteArray) : Int := haveI := gSD s; if gS s then 0 else 4
theorem oM_le (s : ByteArray) : oM s ≤ 253 := by
  unfold oM
  split
  · exact Nat.le_trans (rd_len s _ _ _) (Nat.min_le_right _ _)
  · omega
theorem open_same {e : Ending} {s : ByteArray} {w w' : World} (hs : s.size = 1024) (h : (good s ∧ ∃ v, e = .returned (.tuple #[.agg #[.int .i64 (byt s 4), .int .i64 (four s 8), v], .int .i64 0]) ∧ w'.ownsRow w.heap.size 9 1 v (cls s).length (valsS (cls s))) ∨ (¬ good s ∧ e = .returned (.tuple #[.agg #[.int .i64 0, .int .i64 0, .slice none 0 0], .int .i64 4]))) :
    ∃ aq cq, e = .returned (.tuple #[.agg #[.int .i64 (oX s), .int .i64 (oY s), .slice aq (oM s) cq], .int .i64 (oZ s)]) ∧ StA w' aq (oM s) (tx (cls s)) := by
  unfold oX oY oM oZ
  rcases h with ⟨hg, v, rfl, ho⟩ | ⟨hg, rfl⟩
  · have hG : gS s := ⟨hs, hg⟩
    rw [if_pos hG, if_pos hG, if_pos hG, if_pos hG]
    obtain ⟨aq, cq, rfl, hst⟩ := sta_own ho
    exact ⟨aq, cq, rfl, hst⟩
  · have hG : ¬ gS s := fun h => hg h.2
    rw [if_neg hG, if_neg hG, if_neg hG, if_neg hG]
    exact ⟨none, 0, rfl, .inl rfl⟩
theorem open_none {e : Ending} {s : ByteArray} {w' : World} (hs : ¬ s.size = 1024) (h : e = .returned (.tuple #[.agg #[.int .i64 0, .int .i64 0, .slice none 0 0], .int .i64 4])) :
    ∃ aq cq, e = .returned (.tuple #[.agg #[.int .i64 (oX s), .int .i64 (oY s), .slice aq (oM s) cq], .int .i64 (oZ s)]) ∧ StA w' aq (oM s) (tx (cls s)) := by
  have hG : ¬ gS s := fun h => hs h.1
  unfold oX oY oM oZ
  rw [if_neg hG, if_neg hG, if_neg hG, if_neg hG]
  exact ⟨none, 0, h, .inl rfl⟩
set_option maxHeartbeats 1000000 in
theorem copen_no (s : ByteArray) (w : World) (hs : ¬ s.size = 1024) :
    Calls Try.prog 30 #[.string s] w fun e w' => e = .returned (.tuple #[.agg #[.int .i64 0, .int .i64 0, .slice none 0 0], .int .i64 4]) ∧ Below w.heap.size w w' := by
  have h1 : ((s.size : Int) != 1024) = true := by simp; omega
  go_enter Try.func30, Try.ntmps30
  go_wp2_with fail
  refine bodyPost_ret (v := .tuple #[.agg #[.int .i64 0, .int .i64 0, .slice none 0 0], .int .i64 4]) (by simp [results, Try.results30, go_sem, *]) rfl ⟨rfl, ?_⟩
  exact ((Below.refl _ _).alloc (Nat.le_refl _) _)
set_option maxHeartbeats 1000000 in
theorem ropen_no (s : ByteArray) (w : World) (hs : ¬ s.size = 1024) :
    Calls Try.prog 31 #[.string s] w fun e w' => e = .returned (.tuple #[.agg #[.int .i64 0, .int .i64 0, .slice none 0 0], .int .i64 4]) ∧ Below w.heap.size w w' := by
  have h1 : ((s.size : Int) != 1024) = true := by simp; omega
  go_enter Try.func31, Try.ntmps31
  go_wp2_with fail
  refine bodyPost_ret (v := .tuple #[.agg #[.int .i64 0, .int .i64 0, .slice none 0 0], .int .i64 4]) (by simp [results, Try.results31, go_sem, *]) rfl ⟨rfl, ?_⟩
  exact ((Below.refl _ _).alloc (Nat.le_refl _) _)
theorem copenD (s : ByteArray) (w : World) :
    Calls Try.prog 30 #[.string s] w fun e w' => (∃ aq cq, e = .returned (.tuple #[.agg #[.int .i64 (oX s), .int .i64 (oY s), .slice aq (oM s) cq], .int .i64 (oZ s)]) ∧ StA w' aq (oM s) (tx (cls s))) ∧ Below w.heap.size w w' := by
  by_cases hs : s.size = 1024
  · exact (copen s w hs).mono fun e w' ⟨h, hb⟩ => ⟨open_same hs h, hb⟩
  · exact (copen_no s w hs).mono fun e w' ⟨h, hb⟩ => ⟨open_none hs h, hb⟩
theorem ropenD (s : ByteArray) (w : World) :
    Calls Try.prog 31 #[.string s] w fun e w' => (∃ aq cq, e = .returned (.tuple #[.agg #[.int .i64 (oX s), .int .i64 (oY s), .slice aq (oM s) cq], .int .i64 (oZ s)]) ∧ StA w' aq (oM s) (tx (cls s))) ∧ Below w.heap.size w w' := by
  by_cases hs : s.size = 1024
  · exact (ropen s w hs).mono fun e w' ⟨h, hb⟩ => ⟨open_same hs h, hb⟩
  · exact (ropen_no s w hs).mono fun e w' ⟨h, hb⟩ => ⟨open_none hs h, hb⟩

theorem cnum (z : Int) (w : World) (hz : -9223372036854775808 ≤ z ∧ z ≤ 9223372036854775807) :
    Calls Try.prog 14 #[.int .i64 z] w fun e w' => e = .returned (.int .i64 z) ∧ w' = w := by
  obtain ⟨z1, z2⟩ := hz
  go_enter Try.func14, Try.ntmps14
  go_wp2
  go_ret
  exact ⟨by go_num, rfl⟩
theorem sE_in (K Lk : Int) (n : Nat) (S : Nat → ByteArray) : -9223372036854775808 ≤ sE K Lk n S ∧ sE K Lk n S ≤ 9223372036854775807 := by
  unfold sE; split <;> omega
theorem oZ_in (s : ByteArray) : -9223372036854775808 ≤ oZ s ∧ oZ s ≤ 9223372036854775807 := by
  unfold oZ; split <;> omega

set_option maxRecDepth 20000 in
set_option maxHeartbeats 1000000 in
theorem cseals (K Lk : Int) (a : Option Addr) (n cap : Nat) (S : Nat → ByteArray) (s : ByteArray) (w : World) (h : StA w a n S) (hn : len S n + n ≤ 1048576) (hs : s.size ≤ 1048576) :
    Calls Try.prog 6 #[.agg #[.int .i64 K, .int .i64 Lk, .slice a n cap], .string s] w fun e w' => e = .returned (.bool true) ∧ Below w.heap.size w w' := by
  have HS : Hid (∀ W, Below w.heap.size w W → StA W a n S) := fun W hb => h.below hb
  clear h
  go_enter Try.func6, Try.ntmps6
  go_wp2_with fail
  refine (clentT a n cap S _ (HS.out _ ((Below.refl _ _).alloc (Nat.le_refl _) _)) (by omega)).mono ?_
  rintro e W1 ⟨g, cap1, rfl, hcap, hln, hb1⟩
  obtain ⟨hc1, hf1⟩ := bcell hb1
  have p0 : W1.cell? ⟨w.heap.size, 0, none⟩ = some (.int .i64 K) := by rw [hc1 _ _ (by simp)]; go_simp
  have p1 : W1.cell? ⟨w.heap.size, 1, none⟩ = some (.int .i64 Lk) := by rw [hc1 _ _ (by simp)]; go_simp
  have p2 : W1.cell? ⟨w.heap.size, 2, none⟩ = some (.slice a n cap) := by rw [hc1 _ _ (by simp)]; go_simp
  have zW : w.heap.size < W1.heap.size := keepSize hb1 (by simp)
  have HB1 : Hid (Below w.heap.size w W1) := keepBelow ((Below.refl _ _).alloc (Nat.le_refl _) _) hb1
  have HL : Hid (Ln W1 g n S) := hln
  have i1 : (0 : Int) ≤ (n : Int) := by omega
  have i3 : (n : Int) ≤ (cap1 : Int) := by omega
  have HSW : Hid (StA W1 a n S) := HS.out _ HB1.out
  have HN : Hid (len S n + n ≤ 1048576) := hn
  clear hln hb1 hc1 hf1
  go_upto_region 2 with fail
  go_region_held3 (fun X => Below w.heap.size w X ∧ w.heap.size < X.heap.size ∧ X.cell? ⟨w.heap.size, 0, none⟩ = some (.int .i64 K) ∧ X.cell? ⟨w.heap.size, 1, none⟩ = some (.int .i64 Lk) ∧ X.cell? ⟨w.heap.size, 2, none⟩ = some (.slice a n cap) ∧ Ln X g n S ∧ StA X a n S) (first | exact ⟨HB1.out.drew, zW, p0, p1, p2, HL.out.below (Below.refl _ _).drew, HSW.out.below (Below.refl _ _).drew⟩ | (go_split_ands; and_intros <;> assumption) | (go_split_ands; exact ⟨keepBelow (by assumption) hb, keepSize hb (by assumption), keepCell hb (by assumption) (by assumption), keepCell hb (by assumption) (by assumption), keepCell hb (by assumption) (by assumption), Ln.below (by assumption) hb, StA.below (by assumption) hb⟩))
    (first | (go_at_call 26; refine (csealD K Lk _ n _ S _ ?_ HN.out).mono ?_; (exact (Ln.sta (by assumption))); rintro e w' ⟨rfl, hb⟩))
  go_wp2_with fail
  have hSI : Below w.heap.size w w' ∧ w.heap.size < w'.heap.size ∧ w'.cell? ⟨w.heap.size, 0, none⟩ = some (.int .i64 K) ∧ w'.cell? ⟨w.heap.size, 1, none⟩ = some (.int .i64 Lk) ∧ w'.cell? ⟨w.heap.size, 2, none⟩ = some (.slice a n cap) ∧ Ln w' g n S ∧ StA w' a n S := by first | assumption | (go_split_ands; and_intros <;> assumption)
  obtain ⟨hB2, z2, c0, c1, c2, hL2, hS2⟩ := hSI
  refine (cused _ n _ S _ hL2.sta (by omega)).mono ?_
  rintro e w2 ⟨rfl, rfl⟩
  clear p0 p1 p2 zW HL HSW HB1
  have HL2 : Hid _ := hL2
  have HS2 : Hid _ := hS2
  have HB2 : Hid _ := hB2
  clear hL2 hS2 hB2
  go_wp2_with fail
  refine (cbackT g n cap1 a cap S _ hcap HL2.out HS2.out (by omega)).mono ?_
  rintro e W3 ⟨rfl, hb3⟩
  have HB3 : Hid (Below w.heap.size w W3) := keepBelow HB2.out hb3
  have HS3 : Hid (StA W3 a n S) := StA.below HS2.out hb3
  have d0 := keepCell hb3 z2 c0
  have d1 := keepCell hb3 z2 c1
  have d2 := keepCell hb3 z2 c2
  have z3 := keepSize hb3 z2
  clear hb3 c0 c1 c2 z2 HL2 HS2 HB2
  go_wp2_with fail
  refine (rsealD K Lk a n cap S _ HS3.out HN.out).mono ?_
  rintro e W4 ⟨rfl, hb4⟩
  have HB4 : Hid (Below w.heap.size w W4) := keepBelow HB3.out hb4
  have HS4 : Hid (StA W4 a n S) := StA.below HS3.out hb4
  have e2 := keepCell hb4 z3 d2
  have z4 := keepSize hb4 z3
  clear hb4 d0 d1 d2 z3 HS3 HB3
  go_wp2_with fail
  refine (copenD s _).mono ?_
  rintro e W5 ⟨⟨qa, qc, rfl, hq⟩, hb5⟩
  have HB5 : Hid (Below w.heap.size w W5) := keepBelow HB4.out hb5
  have HS5 : Hid (StA W5 a n S) := StA.below HS4.out hb5
  have HQ5 : Hid _ := hq
  have e5 := keepCell hb5 z4 e2
  have z5 := keepSize hb5 z4
  clear hb5 e2 z4 HS4 HB4 hq
  go_wp2_with fail
  have hbV : Below W5.heap.size W5 (W5.alloc (.cells #[.int .i64 (oX s), .int .i64 (oY s), .slice qa (oM s) qc] 45)) := (Below.refl _ _).alloc (Nat.le_refl _) _
  refine (ropenD s _).mono ?_
  rintro e W6 ⟨⟨ra', rc, rfl, hr⟩, hb6⟩
  have HB6 : Hid (Below w.heap.size w W6) := keepBelow (keepBelow HB5.out hbV) hb6
  have HS6 : Hid (StA W6 a n S) := (StA.below HS5.out hbV).below hb6
  have HQ6 : Hid (StA W6 qa (oM s) (tx (cls s))) := (StA.below HQ5.out hbV).below hb6
  have HR6 : Hid _ := hr
  have HX6 : Hid (Bx3 W6 W5.heap.size (.int .i64 (oX s)) (.int .i64 (oY s)) (.slice qa (oM s) qc)) := (Bx3.new W5 _ _ _).below hb6
  have e6 := keepCell hb6 (keepSize hbV z5) (keepCell hbV z5 e5)
  have z6 := keepSize hb6 (keepSize hbV z5)
  clear hb6 hbV e5 z5 HS5 HB5 HQ5 hr
  go_wp2_with fail
  have hbV : Below W6.heap.size W6 (W6.alloc (.cells #[.int .i64 (oX s), .int .i64 (oY s), .slice ra' (oM s) rc] 45)) := (Below.refl _ _).alloc (Nat.le_refl _) _
  have HB7 : Hid (Below w.heap.size w (W6.alloc (.cells #[.int .i64 (oX s), .int .i64 (oY s), .slice ra' (oM s) rc] 45))) := keepBelow HB6.out hbV
  have HS7 : Hid (StA (W6.alloc (.cells #[.int .i64 (oX s), .int .i64 (oY s), .slice ra' (oM s) rc] 45)) a n S) := StA.below HS6.out hbV
  have HQ7 : Hid (StA (W6.alloc (.cells #[.int .i64 (oX s), .int .i64 (oY s), .slice ra' (oM s) rc] 45)) qa (oM s) (tx (cls s))) := StA.below HQ6.out hbV
  have HR7 : Hid (StA (W6.alloc (.cells #[.int .i64 (oX s), .int .i64 (oY s), .slice ra' (oM s) rc] 45)) ra' (oM s) (tx (cls s))) := StA.below HR6.out hbV
  have bq : Bx3 (W6.alloc (.cells #[.int .i64 (oX s), .int .i64 (oY s), .slice ra' (oM s) rc] 45)) W5.heap.size (.int .i64 (oX s)) (.int .i64 (oY s)) (.slice qa (oM s) qc) := HX6.out.below hbV
  have bo : Bx3 (W6.alloc (.cells #[.int .i64 (oX s), .int .i64 (oY s), .slice ra' (oM s) rc] 45)) W6.heap.size (.int .i64 (oX s)) (.int .i64 (oY s)) (.slice ra' (oM s) rc) := Bx3.new W6 _ _ _
  have e7 := keepCell hbV z6 e6
  have z7 := keepSize hbV z6
  clear hbV e6 z6 HB6 HS6 HQ6 HR6 HX6
  generalize W6.alloc (.cells #[.int .i64 (oX s), .int .i64 (oY s), .slice ra' (oM s) rc] 45) = V at *
  have HZ : Hid (s.size ≤ 1048576) := hs
  have q0 := bq.c0
  have q1 := bq.c1
  have q2 := bq.c2
  have o0 := bo.c0
  have o1 := bo.c1
  have o2 := bo.c2
  have zq := bq.lt
  have zo := bo.lt
  clear bq bo
  go_loop [15, 64] (fun x y => ∃ k : Nat, y = .int .i64 k ∧ x = .int .i64 (4 * (k : Int) + (len S k : Nat)) ∧ k ≤ n) (fun _ y => n - (intOf y).toNat)
  case atStart => exact ⟨0, rfl, by simp [len], Nat.zero_le _⟩
  case round =>
    obtain ⟨k, rfl, rfl, hk⟩ := hrel
    by_cases h0 : k < n
    · obtain ⟨b, off, rfl, hlt, hcells⟩ : ∃ b off, a = some ⟨b, off, none⟩ ∧ b < V.heap.size ∧ ∀ j, j < n → V.cell? ⟨b, off + j, none⟩ = some (.string (S j)) := by
        rcases HS7.out with h | h
        · omega
        · exact h
      have c0 := hcells k h0
      have h1 : (k : Int) < (n : Int) := by omega
      have h2 := len_mono S (show k + 1 ≤ n by omega)
      have h3 : len S (k + 1) = len S k + (S k).size := rfl
      have h4 := HN.out
      clear hcells
      go_wp2
      go_round
      case rel => exact ⟨k + 1, by go_num, by rw [h3]; go_num, by omega⟩
      case measure => simp [intOf]; omega
    · obtain rfl : k = n := by omega
      go_wp2_with fail
      refine (cnum _ _ (sE_in _ _ _ _)).mono ?_
      rintro e w' ⟨rfl, rfl⟩
      go_wp2_with fail
      refine (cnum _ _ (oZ_in _)).mono ?_
      rintro e w' ⟨rfl, rfl⟩
      go_wp2_with fail
      refine (csameT qa (oM s) qc ra' rc (tx (cls s)) (tx (cls s)) _ HQ7.out HR7.out (fun _ _ => rfl) (Nat.le_trans (oM_le s) (by decide))).mono ?_
      rintro e w8 ⟨rfl, hb8⟩
      have HB8 : Hid (Below w.heap.size w w8) := keepBelow HB7.out hb8
      clear hb8
      go_wp2_with fail
      refine (csumL s _ (Nat.le_trans HZ.out (by decide))).mono ?_
      rintro e w9 ⟨rfl, rfl⟩
      go_wp2_with fail
      refine (rsum s _ (Nat.le_trans HZ.out (by decide))).mono ?_
      rintro e w9 ⟨rfl, rfl⟩
      go_wp2
      go_ret
      exact ⟨rfl, HB8.out⟩
end Go.Proofs.Ythimnpobcfkghaa
