/- relstoreref.Unpack -/
import Derived.Test.YthimnpobcfkghaaUnp3
namespace Go.Proofs.Ythimnpobcfkghaa
open Go.RowKit Go.Lib
attribute [local go_sem ↓] Go.wp_at_zero Go.wp_at_succ
theorem owns_slice {W : World} {base n : Nat} {v : Value} {xs : List Value} (h : W.ownsRow base 42 3 v n xs) : ∃ a cap, v = .slice a n cap := by
  rcases h.2 with ⟨rfl, h2⟩ | ⟨g, cap, cur, rfl, _⟩
  · exact ⟨none, 0, by rw [h2]⟩
  · exact ⟨_, cap, rfl⟩
theorem eq_one (s : ByteArray) (p : Nat) (h : p + 2 ≤ s.size) : ((s.extract (p + 1) (p + 2)).toList == [1]) = (bytN s (p + 1) == 1) := by
  have hl : p + 1 < (ll s).length := by rw [ll_len]; omega
  have e : (s.extract (p + 1) (p + 2)).toList = [(ll s)[p + 1]'hl] := by
    rw [ByteArray.toList_eq]
    show ll (s.extract (p + 1) (p + 2)) = _
    rw [ll_extract, List.drop_take, drop_cons hl, show p + 2 - (p + 1) = 1 by omega]
    rfl
  have e2 : ((ll s)[p + 1]'hl).toNat = bytN s (p + 1) := bytN_get (s := s) (i := p + 1) hl
  rw [e, Bool.eq_iff_iff, ← e2]
  simp only [beq_iff_eq, List.cons.injEq, and_true]
  constructor
  · intro h; rw [h]; rfl
  · intro h; exact UInt8.toNat_inj.1 h
theorem ub_8 (s : ByteArray) (p : Nat) (_h : p + 9 ≤ s.size) : ubN (s.extract (p + 1) (p + 1 + 8)) 8 = ubN (ex s (p + 1)) 8 :=
  ubN_ext 8 fun i hi => by rw [bytN_extract s (by omega), bytN_ex]
theorem ub_2 (s : ByteArray) (p : Nat) (_h : p + 3 ≤ s.size) : ubN (s.extract (p + 1) (p + 1 + 2)) 2 = szT s p := by
  show 256 * (256 * 0 + bytN (s.extract (p + 1) (p + 1 + 2)) 0) + bytN (s.extract (p + 1) (p + 1 + 2)) 1 = _
  rw [bytN_extract s (by omega), bytN_extract s (by omega)]
  unfold szT
  simp only [Nat.mul_zero, Nat.zero_add, Nat.add_zero]
theorem wrap64u (u : Nat) (h : u < 18446744073709551616) : wrap64 (u : Int) = sg u := by
  unfold sg wrap64
  split <;> omega
theorem szT_lt (s : ByteArray) (p : Nat) : szT s p < 65536 := by
  have := bytN_lt s (p + 1)
  have := bytN_lt s (p + 2)
  unfold szT
  omega
theorem str_neN {a b : ByteArray} (h : ¬ a = b) : (a.toList == b.toList) = false := by
  rw [beq_eq_false_iff_ne, ByteArray.toList_eq, ByteArray.toList_eq]
  exact fun e => h (ll_inj e)
theorem lies_owned {W : World} {base n cap : Nat} {a : Option Addr} {K N : Nat → Int} {S : Nat → ByteArray} (h : W.ownsRow base 42 3 (.slice a n cap) n (cellsF n K N S)) : LiesA W a n K N S := by
  by_cases h0 : n = 0
  · exact .inl h0
  · obtain ⟨g, cap', e, _, _⟩ := World.ownsRow.form h (by omega)
    injection e with e1 e2 e3
    subst e1
    refine .inr ⟨g, 0, rfl, lies_of_cells (xs := []) ?_⟩
    rw [List.append_nil]
    exact h.cells (g := g) rfl
set_option maxRecDepth 20000 in
set_option maxHeartbeats 4000000 in
theorem runpack (s : ByteArray) (w : World) (hs : s.size ≤ 140737488355328) :
    Calls Try.prog 19 #[.string s] w fun e w' => ((acc s ∧ ∃ v, e = .returned (.tuple #[v, .int .i64 0]) ∧ w'.ownsRow w.heap.size 42 3 v (bytN s 0) (cellsF (bytN s 0) (uK s) (uN s) (uS s))) ∨ (¬ acc s ∧ e = .returned (.tuple #[.slice none 0 0, .int .i64 4]))) ∧ Below w.heap.size w w' := by
  obtain ⟨i0, hi, hz0, hz1, hz2⟩ := info_parts infoV
  by_cases h0 : 0 < s.size
  · have hlt := bytN_lt s 0
    have he := notEmpty h0
    have g0 := bytN_get h0
    have p0 : (0 : Int) < (s.size : Int) := by omega
    have p1 : (1 : Int) ≤ (s.size : Int) := by omega
    have HP1 : Hid (acc s → pR s (bytN s 0) = some s.size ∧ paE (uK s) (uS s) (bytN s 0) = 0 ∧ paS (uK s) (uN s) (uS s) (bytN s 0) = s) := fun h => acc_pack h
    have HP2 : Hid (∀ r, pR s (bytN s 0) = some r → paE (uK s) (uS s) (bytN s 0) = 0 → paS (uK s) (uN s) (uS s) (bytN s 0) = s → acc s) := fun r h1 h2 h3 => pack_acc h0 h1 h2 h3
    generalize hcc : bytN s 0 = c at *
    go_enter Try.func19, Try.ntmps19
    go_wp2_with fail
    go_loopw [4, 5] (fun v y X => ∃ i p : Nat, ∃ a cap, v = .slice a i cap ∧ y = .int .i64 p ∧ i ≤ c ∧ Hid (pR s i = some p) ∧ Hid (X.ownsRow w.heap.size 42 3 (.slice a i cap) i (cellsF i (uK s) (uN s) (uS s))) ∧ Hid (Below w.heap.size w X)) (fun _ y _ => s.size - (intOf y).toNat)
    case atStart => exact ⟨0, 1, none, 0, rfl, rfl, Nat.zero_le _, (rfl : pR s 0 = some 1), World.ownsRow_nil _ _ _ _, Below.refl _ _⟩
    case round =>
      obtain ⟨i, p, a, cap, rfl, rfl, hic, HR, HO, HB⟩ := hrel
      have hp := pos_le h0 HR.out
      have ea := aR_of HR.out
      have hws := HB.out.size
      by_cases hlt2 : i < c
      · have hlt3 : (i : Int) < (c : Int) := by omega
        have HN : Hid (nxt s p = none → ¬ acc s) := fun hn ha => by
          have h2 := (HP1.out ha).1
          rw [pR_none (by rw [pR_succ HR.out]; exact hn) c (by omega)] at h2
          cases h2
        by_cases hps : p < s.size
        · have hps' : (p : Int) < (s.size : Int) := by omega
          have gp := bytN_get hps
          have hlp := bytN_lt s p
          have EK : Hid (uK s i = (bytN s p : Int)) := (by unfold uK; rw [ea]; rfl : uK s i = (bytN s p : Int))
          have EN : Hid (uN s i = vN s p) := (by unfold uN; rw [ea] : uN s i = vN s p)
          have ES : Hid (uS s i = vS s p) := (by unfold uS; rw [ea] : uS s i = vS s p)
          clear ea
          by_cases k0 : bytN s p = 0
          · rw [k0] at gp
            have HX : Hid (pR s (i + 1) = some (p + 1)) := (by rw [pR_succ HR.out]; unfold nxt; rw [if_neg (show ¬ s.size ≤ p by omega)]; rw [if_pos k0] : pR s (i + 1) = some (p + 1))
            have e1 : (0 : Int) = uK s i := by rw [EK.out, k0]; rfl
            have e2 : (0 : Int) = uN s i := by rw [EN.out]; unfold vN; rw [k0]; rfl
            have e3 : (⟨#[]⟩ : ByteArray) = uS s i := by rw [ES.out]; unfold vS; rw [k0]; rfl
            have HC : Hid (cellsF (i + 1) (uK s) (uN s) (uS s) = cellsF i (uK s) (uN s) (uS s) ++ [.int .i64 (0), .int .i64 (0), .string (⟨#[]⟩)]) := (by rw [cellsF_succ]; unfold three; rw [← e1, ← e2, ← e3] : cellsF (i + 1) (uK s) (uN s) (uS s) = cellsF i (uK s) (uN s) (uS s) ++ [.int .i64 (0), .int .i64 (0), .string (⟨#[]⟩)])
            clear e1 e2 e3
            have hs1 : ¬ ((s.size : Int) < (p : Int) + 1) := by omega
            have hs2 : (p : Int) + 1 ≤ (s.size : Int) := by omega
            go_wp2_with fail
            refine (rnull _).mono ?_
            rintro e w1 ⟨rfl, hb1⟩
            have HB1 : Hid (Below w.heap.size w w1) := HB.out.trans (hb1.mono HB.out.size)
            have HO1 : Hid (w1.ownsRow w.heap.size 42 3 (.slice a i cap) i (cellsF i (uK s) (uN s) (uS s))) := row_below HO.out hb1
            have hw1 : w.heap.size ≤ w1.heap.size := HB1.out.size
            clear hb1
            have HOa : Hid ((w1.alloc (.cells #[.int .i64 0, .int .i64 0, .string ⟨#[]⟩] 42)).ownsRow w.heap.size 42 3 (.slice a i cap) i (cellsF i (uK s) (uN s) (uS s))) := World.ownsRow.alloc HO1.out _
            have HBa : Hid (Below w.heap.size w (w1.alloc (.cells #[.int .i64 0, .int .i64 0, .string ⟨#[]⟩] 42))) := HB1.out.alloc hw1 _
            have hwa : w.heap.size ≤ (w1.alloc (.cells #[.int .i64 0, .int .i64 0, .string ⟨#[]⟩] 42)).heap.size := HBa.out.size
            go_wp2_with (at_builtin; refine wpList_append_lies _ rfl _ _ _ rfl w.heap.size 42 i0 (.agg #[.int .i64 (0), .int .i64 (0), .string (⟨#[]⟩)]) 3 32 Try.underlying22 hi hz0 hz1 hz2 rfl (by decide) _ i (cellsF i (uK s) (uN s) (uS s)) rfl (World.ownsRow.alloc HOa.out _) _ 1 1 [.int .i64 (0), .int .i64 (0), .string (⟨#[]⟩)] rfl rfl ?g0 ?g00 (by decide) ?g1 ?g2 ?g3 _ rfl ?_)
            case g0 => have hn := newsV (w1.alloc (.cells #[.int .i64 0, .int .i64 0, .string ⟨#[]⟩] 42)) (0) (0) (⟨#[]⟩); first | (rw [put3_size] at hn; exact hn) | simpa using hn
            case g00 => simp [Value.oneCell']
            case g1 => unfold maxLen; omega
            case g2 => omega
            case g3 => simp; omega
            intro g' cap2 w2' hown2 hgrow2 hat2 hlt4
            have HB2 : Hid (Below w.heap.size w w2') := below_appV (HBa.out.alloc hwa _) (World.ownsRow.alloc HOa.out _) (by simp; omega) hgrow2
            have HO2 : Hid (w2'.ownsRow w.heap.size 42 3 (.slice (some ⟨g', 0, none⟩) (i + 1) cap2) (i + 1) (cellsF (i + 1) (uK s) (uN s) (uS s))) := by
              show w2'.ownsRow w.heap.size 42 3 (.slice (some ⟨g', 0, none⟩) (i + 1) cap2) (i + 1) (cellsF (i + 1) (uK s) (uN s) (uS s))
              rw [HC.out]; exact hown2
            clear hown2 hgrow2 hat2 hlt4
            go_wp2
            go_roundw
            case rel => exact ⟨i + 1, p + 1, _, _, rfl, by first | rfl | go_num, by omega, HX, HO2, HB2⟩
            case measure => simp [intOf]; omega
          · by_cases k1 : bytN s p = 1
            · rw [k1] at gp
              by_cases h2 : p + 2 ≤ s.size
              · have HX : Hid (pR s (i + 1) = some (p + 2)) := (by rw [pR_succ HR.out]; unfold nxt; rw [if_neg (show ¬ s.size ≤ p by omega)]; rw [if_neg k0, if_pos k1, if_pos h2] : pR s (i + 1) = some (p + 2))
                have e1 : (1 : Int) = uK s i := by rw [EK.out, k1]; rfl
                have e2 : (bn (bytN s (p + 1) == 1) : Int) = uN s i := by rw [EN.out]; unfold vN; rw [if_pos k1]
                have e3 : (⟨#[]⟩ : ByteArray) = uS s i := by rw [ES.out]; unfold vS; rw [k1]; rfl
                have HC : Hid (cellsF (i + 1) (uK s) (uN s) (uS s) = cellsF i (uK s) (uN s) (uS s) ++ [.int .i64 (1), .int .i64 (bn (bytN s (p + 1) == 1)), .string (⟨#[]⟩)]) := (by rw [cellsF_succ]; unfold three; rw [← e1, ← e2, ← e3] : cellsF (i + 1) (uK s) (uN s) (uS s) = cellsF i (uK s) (uN s) (uS s) ++ [.int .i64 (1), .int .i64 (bn (bytN s (p + 1) == 1)), .string (⟨#[]⟩)])
                clear e1 e2 e3
                have hs1 : ¬ ((s.size : Int) < (p : Int) + 1 + 1) := by omega
                have hs2 : (p : Int) + 1 + 1 ≤ (s.size : Int) := by omega
                have HT := eq_one s p h2
                go_wp2_with fail
                refine (rnull _).mono ?_
                rintro e w1 ⟨rfl, hb1⟩
                have HB1 : Hid (Below w.heap.size w w1) := HB.out.trans (hb1.mono HB.out.size)
                have HO1 : Hid (w1.ownsRow w.heap.size 42 3 (.slice a i cap) i (cellsF i (uK s) (uN s) (uS s))) := row_below HO.out hb1
                have hw1 : w.heap.size ≤ w1.heap.size := HB1.out.size
                clear hb1
                go_wp2_with fail
                refine (rtruth _ _).mono ?_
                rintro e w2 ⟨rfl, hb2⟩
                obtain ⟨hc2, hf2⟩ := bcell hb2
                have r0 : w2.cell? ⟨w1.heap.size, 0, none⟩ = some (.int .i64 0) := by rw [hc2 _ _ (by simp)]; go_simp
                have r1 : w2.cell? ⟨w1.heap.size, 1, none⟩ = some (.int .i64 0) := by rw [hc2 _ _ (by simp)]; go_simp
                have r2 : w2.cell? ⟨w1.heap.size, 2, none⟩ = some (.string ⟨#[]⟩) := by rw [hc2 _ _ (by simp)]; go_simp
                have f0 : w2.frozen? ⟨w1.heap.size, 0, none⟩ = false := by rw [hf2 _ _ (by simp)]; go_simp
                have f1 : w2.frozen? ⟨w1.heap.size, 1, none⟩ = false := by rw [hf2 _ _ (by simp)]; go_simp
                have f2 : w2.frozen? ⟨w1.heap.size, 2, none⟩ = false := by rw [hf2 _ _ (by simp)]; go_simp
                have z2 : w1.heap.size + 1 ≤ w2.heap.size := by have := hb2.size; simpa using this
                have HB2a : Hid (Below w.heap.size w w2) := (HB1.out.alloc hw1 _).trans (hb2.mono (by simp; omega))
                have HOa : Hid ((put3 w2 w1.heap.size (.int .i64 (1)) (.int .i64 (bn (bytN s (p + 1) == 1))) (.string (⟨#[]⟩))).ownsRow w.heap.size 42 3 (.slice a i cap) i (cellsF i (uK s) (uN s) (uS s))) := row_put3 (row_below (World.ownsRow.alloc HO1.out _) hb2) (row_new HO1.out (Nat.le_refl _))
                have HBa : Hid (Below w.heap.size w (put3 w2 w1.heap.size (.int .i64 (1)) (.int .i64 (bn (bytN s (p + 1) == 1))) (.string (⟨#[]⟩)))) := put3_below HB2a.out hw1 _ _ _
                have hwa : w.heap.size ≤ (put3 w2 w1.heap.size (.int .i64 (1)) (.int .i64 (bn (bytN s (p + 1) == 1))) (.string (⟨#[]⟩))).heap.size := HBa.out.size
                clear hc2 hf2 hb2
                go_wp2_with (at_builtin; refine wpList_append_lies _ rfl _ _ _ rfl w.heap.size 42 i0 (.agg #[.int .i64 (0), .int .i64 (0), .string (⟨#[]⟩)]) 3 32 Try.underlying22 hi hz0 hz1 hz2 rfl (by decide) _ i (cellsF i (uK s) (uN s) (uS s)) rfl (World.ownsRow.alloc HOa.out _) _ 1 1 [.int .i64 (1), .int .i64 (bn (bytN s (p + 1) == 1)), .string (⟨#[]⟩)] rfl rfl ?g0 ?g00 (by decide) ?g1 ?g2 ?g3 _ rfl ?_)
                case g0 => have hn := newsV (put3 w2 w1.heap.size (.int .i64 (1)) (.int .i64 (bn (bytN s (p + 1) == 1))) (.string (⟨#[]⟩))) (1) (bn (bytN s (p + 1) == 1)) (⟨#[]⟩); first | (rw [put3_size] at hn; exact hn) | simpa using hn
                case g00 => simp [Value.oneCell']
                case g1 => unfold maxLen; omega
                case g2 => omega
                case g3 => simp; omega
                intro g' cap2 w2' hown2 hgrow2 hat2 hlt4
                have HB2 : Hid (Below w.heap.size w w2') := below_appV (HBa.out.alloc hwa _) (World.ownsRow.alloc HOa.out _) (by simp; omega) hgrow2
                have HO2 : Hid (w2'.ownsRow w.heap.size 42 3 (.slice (some ⟨g', 0, none⟩) (i + 1) cap2) (i + 1) (cellsF (i + 1) (uK s) (uN s) (uS s))) := by
                  show w2'.ownsRow w.heap.size 42 3 (.slice (some ⟨g', 0, none⟩) (i + 1) cap2) (i + 1) (cellsF (i + 1) (uK s) (uN s) (uS s))
                  rw [HC.out]; exact hown2
                clear hown2 hgrow2 hat2 hlt4
                go_wp2
                go_roundw
                case rel => exact ⟨i + 1, p + 2, _, _, rfl, by first | rfl | go_num, by omega, HX, HO2, HB2⟩
                case measure => simp [intOf]; omega
              · have HN2 : Hid (¬ acc s) := HN.out (by unfold nxt; rw [if_neg (show ¬ s.size ≤ p by omega)]; rw [if_neg k0, if_pos k1, if_neg h2])
                have hs1 : (s.size : Int) < (p : Int) + 1 + 1 := by omega
                go_wp2_with fail
                refine (rnull _).mono ?_
                rintro e w1 ⟨rfl, hb1⟩
                have HB1 : Hid (Below w.heap.size w w1) := HB.out.trans (hb1.mono HB.out.size)
                have HO1 : Hid (w1.ownsRow w.heap.size 42 3 (.slice a i cap) i (cellsF i (uK s) (uN s) (uS s))) := row_below HO.out hb1
                have hw1 : w.heap.size ≤ w1.heap.size := HB1.out.size
                clear hb1
                go_wp2_with fail
                go_ret2
                exact ⟨.inr ⟨HN2.out, rfl⟩, HB1.out.alloc hw1 _⟩
            · by_cases k2 : bytN s p = 2
              · rw [k2] at gp
                by_cases h2 : p + 9 ≤ s.size
                · have HX : Hid (pR s (i + 1) = some (p + 9)) := (by rw [pR_succ HR.out]; unfold nxt; rw [if_neg (show ¬ s.size ≤ p by omega)]; rw [if_neg k0, if_neg k1, if_pos k2, if_pos h2] : pR s (i + 1) = some (p + 9))
                  have e1 : (2 : Int) = uK s i := by rw [EK.out, k2]; rfl
                  have e2 : (sg (ubN (ex s (p + 1)) 8) : Int) = uN s i := by rw [EN.out]; unfold vN; rw [if_neg k1, if_pos k2]
                  have e3 : (⟨#[]⟩ : ByteArray) = uS s i := by rw [ES.out]; unfold vS; rw [k2]; rfl
                  have HC : Hid (cellsF (i + 1) (uK s) (uN s) (uS s) = cellsF i (uK s) (uN s) (uS s) ++ [.int .i64 (2), .int .i64 (sg (ubN (ex s (p + 1)) 8)), .string (⟨#[]⟩)]) := (by rw [cellsF_succ]; unfold three; rw [← e1, ← e2, ← e3] : cellsF (i + 1) (uK s) (uN s) (uS s) = cellsF i (uK s) (uN s) (uS s) ++ [.int .i64 (2), .int .i64 (sg (ubN (ex s (p + 1)) 8)), .string (⟨#[]⟩)])
                  clear e1 e2 e3
                  have hs1 : ¬ ((s.size : Int) < (p : Int) + 1 + 8) := by omega
                  have hs2 : (p : Int) + 1 + 8 ≤ (s.size : Int) := by omega
                  have ht := ub_8 s p h2
                  have htz : (s.extract (p + 1) (p + 1 + 8)).size = 8 := by rw [ByteArray.size_extract]; omega
                  have HU : Hid (wrap64 ((ubN (s.extract (p + 1) (p + 1 + 8)) 8 : Nat) : Int) = sg (ubN (ex s (p + 1)) 8)) := (by rw [ht]; exact wrap64u _ (ubN_8 _) : wrap64 ((ubN (s.extract (p + 1) (p + 1 + 8)) 8 : Nat) : Int) = sg (ubN (ex s (p + 1)) 8))
                  have HTZ : Hid _ := htz
                  clear ht htz
                  go_wp2_with fail
                  refine (rnull _).mono ?_
                  rintro e w1 ⟨rfl, hb1⟩
                  have HB1 : Hid (Below w.heap.size w w1) := HB.out.trans (hb1.mono HB.out.size)
                  have HO1 : Hid (w1.ownsRow w.heap.size 42 3 (.slice a i cap) i (cellsF i (uK s) (uN s) (uS s))) := row_below HO.out hb1
                  have hw1 : w.heap.size ≤ w1.heap.size := HB1.out.size
                  clear hb1
                  go_wp2_with fail
                  refine (runbytesN _ _ ?_).mono ?_
                  · rw [HTZ.out]; omega
                  rintro e w1' ⟨rfl, rfl⟩
                  go_wp2_with fail
                  rw [HU.out]
                  refine (rnum _ _).mono ?_
                  rintro e w2 ⟨rfl, hb2⟩
                  obtain ⟨hc2, hf2⟩ := bcell hb2
                  have r0 : w2.cell? ⟨w1.heap.size, 0, none⟩ = some (.int .i64 0) := by rw [hc2 _ _ (by simp)]; go_simp
                  have r1 : w2.cell? ⟨w1.heap.size, 1, none⟩ = some (.int .i64 0) := by rw [hc2 _ _ (by simp)]; go_simp
                  have r2 : w2.cell? ⟨w1.heap.size, 2, none⟩ = some (.string ⟨#[]⟩) := by rw [hc2 _ _ (by simp)]; go_simp
                  have f0 : w2.frozen? ⟨w1.heap.size, 0, none⟩ = false := by rw [hf2 _ _ (by simp)]; go_simp
                  have f1 : w2.frozen? ⟨w1.heap.size, 1, none⟩ = false := by rw [hf2 _ _ (by simp)]; go_simp
                  have f2 : w2.frozen? ⟨w1.heap.size, 2, none⟩ = false := by rw [hf2 _ _ (by simp)]; go_simp
                  have z2 : w1.heap.size + 1 ≤ w2.heap.size := by have := hb2.size; simpa using this
                  have HB2a : Hid (Below w.heap.size w w2) := (HB1.out.alloc hw1 _).trans (hb2.mono (by simp; omega))
                  have HOa : Hid ((put3 w2 w1.heap.size (.int .i64 (2)) (.int .i64 (sg (ubN (ex s (p + 1)) 8))) (.string (⟨#[]⟩))).ownsRow w.heap.size 42 3 (.slice a i cap) i (cellsF i (uK s) (uN s) (uS s))) := row_put3 (row_below (World.ownsRow.alloc HO1.out _) hb2) (row_new HO1.out (Nat.le_refl _))
                  have HBa : Hid (Below w.heap.size w (put3 w2 w1.heap.size (.int .i64 (2)) (.int .i64 (sg (ubN (ex s (p + 1)) 8))) (.string (⟨#[]⟩)))) := put3_below HB2a.out hw1 _ _ _
                  have hwa : w.heap.size ≤ (put3 w2 w1.heap.size (.int .i64 (2)) (.int .i64 (sg (ubN (ex s (p + 1)) 8))) (.string (⟨#[]⟩))).heap.size := HBa.out.size
                  clear hc2 hf2 hb2
                  go_wp2_with (at_builtin; refine wpList_append_lies _ rfl _ _ _ rfl w.heap.size 42 i0 (.agg #[.int .i64 (0), .int .i64 (0), .string (⟨#[]⟩)]) 3 32 Try.underlying22 hi hz0 hz1 hz2 rfl (by decide) _ i (cellsF i (uK s) (uN s) (uS s)) rfl (World.ownsRow.alloc HOa.out _) _ 1 1 [.int .i64 (2), .int .i64 (sg (ubN (ex s (p + 1)) 8)), .string (⟨#[]⟩)] rfl rfl ?g0 ?g00 (by decide) ?g1 ?g2 ?g3 _ rfl ?_)
                  case g0 => have hn := newsV (put3 w2 w1.heap.size (.int .i64 (2)) (.int .i64 (sg (ubN (ex s (p + 1)) 8))) (.string (⟨#[]⟩))) (2) (sg (ubN (ex s (p + 1)) 8)) (⟨#[]⟩); first | (rw [put3_size] at hn; exact hn) | simpa using hn
                  case g00 => simp [Value.oneCell']
                  case g1 => unfold maxLen; omega
                  case g2 => omega
                  case g3 => simp; omega
                  intro g' cap2 w2' hown2 hgrow2 hat2 hlt4
                  have HB2 : Hid (Below w.heap.size w w2') := below_appV (HBa.out.alloc hwa _) (World.ownsRow.alloc HOa.out _) (by simp; omega) hgrow2
                  have HO2 : Hid (w2'.ownsRow w.heap.size 42 3 (.slice (some ⟨g', 0, none⟩) (i + 1) cap2) (i + 1) (cellsF (i + 1) (uK s) (uN s) (uS s))) := by
                    show w2'.ownsRow w.heap.size 42 3 (.slice (some ⟨g', 0, none⟩) (i + 1) cap2) (i + 1) (cellsF (i + 1) (uK s) (uN s) (uS s))
                    rw [HC.out]; exact hown2
                  clear hown2 hgrow2 hat2 hlt4
                  go_wp2
                  go_roundw
                  case rel => exact ⟨i + 1, p + 9, _, _, rfl, by first | rfl | go_num, by omega, HX, HO2, HB2⟩
                  case measure => simp [intOf]; omega
                · have HN2 : Hid (¬ acc s) := HN.out (by unfold nxt; rw [if_neg (show ¬ s.size ≤ p by omega)]; rw [if_neg k0, if_neg k1, if_pos k2, if_neg h2])
                  have hs1 : (s.size : Int) < (p : Int) + 1 + 8 := by omega
                  go_wp2_with fail
                  refine (rnull _).mono ?_
                  rintro e w1 ⟨rfl, hb1⟩
                  have HB1 : Hid (Below w.heap.size w w1) := HB.out.trans (hb1.mono HB.out.size)
                  have HO1 : Hid (w1.ownsRow w.heap.size 42 3 (.slice a i cap) i (cellsF i (uK s) (uN s) (uS s))) := row_below HO.out hb1
                  have hw1 : w.heap.size ≤ w1.heap.size := HB1.out.size
                  clear hb1
                  go_wp2_with fail
                  go_ret2
                  exact ⟨.inr ⟨HN2.out, rfl⟩, HB1.out.alloc hw1 _⟩
              · by_cases k3 : bytN s p = 3
                · rw [k3] at gp
                  by_cases h2 : p + 3 ≤ s.size
                  · have hs1 : ¬ ((s.size : Int) < (p : Int) + 1 + 2) := by omega
                    have hs2 : (p : Int) + 1 + 2 ≤ (s.size : Int) := by omega
                    have htz : (s.extract (p + 1) (p + 1 + 2)).size = 2 := by rw [ByteArray.size_extract]; omega
                    have ht := ub_2 s p h2
                    have hzl := szT_lt s p
                    have HU : Hid (ubN (s.extract (p + 1) (p + 1 + 2)) (s.extract (p + 1) (p + 1 + 2)).size = szT s p) := (by rw [htz, ht] : ubN (s.extract (p + 1) (p + 1 + 2)) (s.extract (p + 1) (p + 1 + 2)).size = szT s p)
                    have HTZ : Hid _ := htz
                    have HVS : Hid (p + 3 + szT s p ≤ s.size → s.extract (p + 1 + 2) (p + 1 + 2 + szT s p) = uS s i) := (fun h => by rw [ES.out]; unfold vS; rw [if_pos k3] : p + 3 + szT s p ≤ s.size → s.extract (p + 1 + 2) (p + 1 + 2 + szT s p) = uS s i)
                    have HX0 : Hid (p + 3 + szT s p ≤ s.size → pR s (i + 1) = some (p + 3 + szT s p)) := (fun h => by rw [pR_succ HR.out]; unfold nxt; rw [if_neg (show ¬ s.size ≤ p by omega), if_neg k0, if_neg k1, if_neg k2, if_pos k3, if_pos ⟨h2, h⟩] : p + 3 + szT s p ≤ s.size → pR s (i + 1) = some (p + 3 + szT s p))
                    have HN3 : Hid (¬ p + 3 + szT s p ≤ s.size → ¬ acc s) := (fun h => HN.out (by unfold nxt; rw [if_neg (show ¬ s.size ≤ p by omega), if_neg k0, if_neg k1, if_neg k2, if_pos k3, if_neg (fun h' => h h'.2)]) : ¬ p + 3 + szT s p ≤ s.size → ¬ acc s)
                    clear ht htz
                    go_wp2_with fail
                    refine (rnull _).mono ?_
                    rintro e w1 ⟨rfl, hb1⟩
                    have HB1 : Hid (Below w.heap.size w w1) := HB.out.trans (hb1.mono HB.out.size)
                    have HO1 : Hid (w1.ownsRow w.heap.size 42 3 (.slice a i cap) i (cellsF i (uK s) (uN s) (uS s))) := row_below HO.out hb1
                    have hw1 : w.heap.size ≤ w1.heap.size := HB1.out.size
                    clear hb1
                    go_wp2_with fail
                    refine (runbytesN _ _ ?_).mono ?_
                    · rw [HTZ.out]; omega
                    rintro e w1' ⟨rfl, rfl⟩
                    rw [HU.out]
                    generalize szT s p = z at *
                    by_cases h3 : p + 3 + z ≤ s.size
                    · have HX : Hid (pR s (i + 1) = some (p + 3 + z)) := HX0.out h3
                      have e1 : (3 : Int) = uK s i := by rw [EK.out, k3]; rfl
                      have e2 : (0 : Int) = uN s i := by rw [EN.out]; unfold vN; rw [k3]; rfl
                      have e3 : (s.extract (p + 1 + 2) (p + 1 + 2 + z) : ByteArray) = uS s i := by exact HVS.out h3
                      have HC : Hid (cellsF (i + 1) (uK s) (uN s) (uS s) = cellsF i (uK s) (uN s) (uS s) ++ [.int .i64 (3), .int .i64 (0), .string (s.extract (p + 1 + 2) (p + 1 + 2 + z))]) := (by rw [cellsF_succ]; unfold three; rw [← e1, ← e2, ← e3] : cellsF (i + 1) (uK s) (uN s) (uS s) = cellsF i (uK s) (uN s) (uS s) ++ [.int .i64 (3), .int .i64 (0), .string (s.extract (p + 1 + 2) (p + 1 + 2 + z))])
                      clear e1 e2 e3
                      have hs3 : ¬ ((s.size : Int) < (p : Int) + 1 + 2 + (z : Int)) := by omega
                      have hs4 : (p : Int) + 1 + 2 + (z : Int) ≤ (s.size : Int) := by omega
                      go_wp2_with fail
                      refine (rstr _ _).mono ?_
                      rintro e w2 ⟨rfl, hb2⟩
                      obtain ⟨hc2, hf2⟩ := bcell hb2
                      have r0 : w2.cell? ⟨w1.heap.size, 0, none⟩ = some (.int .i64 0) := by rw [hc2 _ _ (by simp)]; go_simp
                      have r1 : w2.cell? ⟨w1.heap.size, 1, none⟩ = some (.int .i64 0) := by rw [hc2 _ _ (by simp)]; go_simp
                      have r2 : w2.cell? ⟨w1.heap.size, 2, none⟩ = some (.string ⟨#[]⟩) := by rw [hc2 _ _ (by simp)]; go_simp
                      have f0 : w2.frozen? ⟨w1.heap.size, 0, none⟩ = false := by rw [hf2 _ _ (by simp)]; go_simp
                      have f1 : w2.frozen? ⟨w1.heap.size, 1, none⟩ = false := by rw [hf2 _ _ (by simp)]; go_simp
                      have f2 : w2.frozen? ⟨w1.heap.size, 2, none⟩ = false := by rw [hf2 _ _ (by simp)]; go_simp
                      have z2 : w1.heap.size + 1 ≤ w2.heap.size := by have := hb2.size; simpa using this
                      have HB2a : Hid (Below w.heap.size w w2) := (HB1.out.alloc hw1 _).trans (hb2.mono (by simp; omega))
                      have HOa : Hid ((put3 w2 w1.heap.size (.int .i64 (3)) (.int .i64 (0)) (.string (s.extract (p + 1 + 2) (p + 1 + 2 + z)))).ownsRow w.heap.size 42 3 (.slice a i cap) i (cellsF i (uK s) (uN s) (uS s))) := row_put3 (row_below (World.ownsRow.alloc HO1.out _) hb2) (row_new HO1.out (Nat.le_refl _))
                      have HBa : Hid (Below w.heap.size w (put3 w2 w1.heap.size (.int .i64 (3)) (.int .i64 (0)) (.string (s.extract (p + 1 + 2) (p + 1 + 2 + z))))) := put3_below HB2a.out hw1 _ _ _
                      have hwa : w.heap.size ≤ (put3 w2 w1.heap.size (.int .i64 (3)) (.int .i64 (0)) (.string (s.extract (p + 1 + 2) (p + 1 + 2 + z)))).heap.size := HBa.out.size
                      clear hc2 hf2 hb2
                      go_wp2_with (at_builtin; refine wpList_append_lies _ rfl _ _ _ rfl w.heap.size 42 i0 (.agg #[.int .i64 (0), .int .i64 (0), .string (⟨#[]⟩)]) 3 32 Try.underlying22 hi hz0 hz1 hz2 rfl (by decide) _ i (cellsF i (uK s) (uN s) (uS s)) rfl (World.ownsRow.alloc HOa.out _) _ 1 1 [.int .i64 (3), .int .i64 (0), .string (s.extract (p + 1 + 2) (p + 1 + 2 + z))] rfl rfl ?g0 ?g00 (by decide) ?g1 ?g2 ?g3 _ rfl ?_)
                      case g0 => have hn := newsV (put3 w2 w1.heap.size (.int .i64 (3)) (.int .i64 (0)) (.string (s.extract (p + 1 + 2) (p + 1 + 2 + z)))) (3) (0) (s.extract (p + 1 + 2) (p + 1 + 2 + z)); first | (rw [put3_size] at hn; exact hn) | simpa using hn
                      case g00 => simp [Value.oneCell']
                      case g1 => unfold maxLen; omega
                      case g2 => omega
                      case g3 => simp; omega
                      intro g' cap2 w2' hown2 hgrow2 hat2 hlt4
                      have HB2 : Hid (Below w.heap.size w w2') := below_appV (HBa.out.alloc hwa _) (World.ownsRow.alloc HOa.out _) (by simp; omega) hgrow2
                      have HO2 : Hid (w2'.ownsRow w.heap.size 42 3 (.slice (some ⟨g', 0, none⟩) (i + 1) cap2) (i + 1) (cellsF (i + 1) (uK s) (uN s) (uS s))) := by
                        show w2'.ownsRow w.heap.size 42 3 (.slice (some ⟨g', 0, none⟩) (i + 1) cap2) (i + 1) (cellsF (i + 1) (uK s) (uN s) (uS s))
                        rw [HC.out]; exact hown2
                      clear hown2 hgrow2 hat2 hlt4
                      go_wp2
                      go_roundw
                      case rel => exact ⟨i + 1, p + 3 + z, _, _, rfl, by first | rfl | go_num, by omega, HX, HO2, HB2⟩
                      case measure => simp [intOf]; omega
                    · have HN2 : Hid (¬ acc s) := HN3.out h3
                      have hs3 : (s.size : Int) < (p : Int) + 1 + 2 + (z : Int) := by omega
                      go_wp2_with fail
                      go_ret2
                      exact ⟨.inr ⟨HN2.out, rfl⟩, HB1.out.alloc hw1 _⟩
                  · have HN2 : Hid (¬ acc s) := HN.out (by unfold nxt; rw [if_neg (show ¬ s.size ≤ p by omega)]; rw [if_neg k0, if_neg k1, if_neg k2, if_pos k3, if_neg (fun h' => h2 h'.1)])
                    have hs1 : (s.size : Int) < (p : Int) + 1 + 2 := by omega
                    go_wp2_with fail
                    refine (rnull _).mono ?_
                    rintro e w1 ⟨rfl, hb1⟩
                    have HB1 : Hid (Below w.heap.size w w1) := HB.out.trans (hb1.mono HB.out.size)
                    have HO1 : Hid (w1.ownsRow w.heap.size 42 3 (.slice a i cap) i (cellsF i (uK s) (uN s) (uS s))) := row_below HO.out hb1
                    have hw1 : w.heap.size ≤ w1.heap.size := HB1.out.size
                    clear hb1
                    go_wp2_with fail
                    go_ret2
                    exact ⟨.inr ⟨HN2.out, rfl⟩, HB1.out.alloc hw1 _⟩
                · have HN2 : Hid (¬ acc s) := HN.out (by unfold nxt; rw [if_neg (show ¬ s.size ≤ p by omega)]; rw [if_neg k0, if_neg k1, if_neg k2, if_neg k3])
                  generalize bytN s p = k at *
                  have m0 : ¬ ((k : Int) = 0) := by omega
                  have m1 : ¬ ((k : Int) = 1) := by omega
                  have m2 : ¬ ((k : Int) = 2) := by omega
                  have m3 : ¬ ((k : Int) = 3) := by omega
                  go_wp2_with fail
                  refine (rnull _).mono ?_
                  rintro e w1 ⟨rfl, hb1⟩
                  have HB1 : Hid (Below w.heap.size w w1) := HB.out.trans (hb1.mono HB.out.size)
                  have HO1 : Hid (w1.ownsRow w.heap.size 42 3 (.slice a i cap) i (cellsF i (uK s) (uN s) (uS s))) := row_below HO.out hb1
                  have hw1 : w.heap.size ≤ w1.heap.size := HB1.out.size
                  clear hb1
                  go_wp2_with fail
                  go_ret2
                  exact ⟨.inr ⟨HN2.out, rfl⟩, HB1.out.alloc hw1 _⟩
        · have HN2 : Hid (¬ acc s) := HN.out (by unfold nxt; rw [if_pos (show s.size ≤ p by omega)])
          have hs1 : (s.size : Int) ≤ (p : Int) := by omega
          go_wp2_with fail
          go_ret2
          exact ⟨.inr ⟨HN2.out, rfl⟩, HB.out⟩
      · obtain rfl : i = c := by omega
        have hL : LiesA wr a i (uK s) (uN s) (uS s) := lies_owned HO.out
        have HNr : ∀ j, j < i → -9223372036854775808 ≤ uN s j ∧ uN s j ≤ 9223372036854775807 := fun j _ => vN_range _ _
        have hic3 : ¬ ((i : Int) < (i : Int)) := by omega
        go_wp2_with fail
        refine (rpack a i cap (uK s) (uN s) (uS s) _ hL (by omega) HNr).mono ?_
        rintro e w1 ⟨rfl, hb1⟩
        have HB1 : Hid (Below w.heap.size w w1) := HB.out.trans (hb1.mono HB.out.size)
        have HO1 : Hid (w1.ownsRow w.heap.size 42 3 (.slice a i cap) i (cellsF i (uK s) (uN s) (uS s))) := row_below HO.out hb1
        clear hb1 hL HNr
        by_cases hE : paE (uK s) (uS s) i = 0
        · rw [hE]
          by_cases hS : paS (uK s) (uN s) (uS s) i = s
          · have HA : Hid (acc s) := HP2.out p HR.out hE hS
            rw [hS]
            clear hE hS
            go_wp2_with fail
            go_ret2
            exact ⟨.inl ⟨HA.out, _, rfl, HO1.out⟩, HB1.out⟩
          · have HA : Hid (¬ acc s) := fun ha => hS (HP1.out ha).2.2
            have hS' := str_neN hS
            clear hE hS
            generalize paS (uK s) (uN s) (uS s) i = T at *
            go_wp2_with fail
            go_ret2
            exact ⟨.inr ⟨HA.out, rfl⟩, HB1.out⟩
        · have HA : Hid (¬ acc s) := fun ha => hE (HP1.out ha).2.1
          have hE' : ¬ (paE (uK s) (uS s) i = 0) := hE
          clear hE
          generalize paS (uK s) (uN s) (uS s) i = T at *
          generalize paE (uK s) (uS s) i = E at *
          go_wp2_with fail
          go_ret2
          exact ⟨.inr ⟨HA.out, rfl⟩, HB1.out⟩
  · obtain rfl := empty_of h0
    have HN : Hid (¬ acc ⟨#[]⟩) := fun ha => h0 ha.1
    go_enter Try.func19, Try.ntmps19
    go_wp2_with fail
    go_ret2
    exact ⟨.inr ⟨HN.out, rfl⟩, Below.refl _ _⟩
end Go.Proofs.Ythimnpobcfkghaa
