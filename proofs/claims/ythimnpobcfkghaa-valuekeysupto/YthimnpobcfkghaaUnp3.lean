/- value.Unpack -/
import Derived.Test.YthimnpobcfkghaaUnp2
namespace Go.Proofs.Ythimnpobcfkghaa
open Go.RowKit Go.Lib
attribute [local go_sem ↓] Go.wp_at_zero Go.wp_at_succ
theorem newsV (w : World) (k n : Int) (s : ByteArray) : ∀ j u, [Value.int .i64 k, .int .i64 n, .string s][j]? = some u → (w.alloc (.cells #[.int .i64 k, .int .i64 n, .string s] 42)).cell? ((⟨w.heap.size, 0, none⟩ : Addr).add j) = some u := by
  intro j u hj
  rw [add_none]
  match j, hj with
  | 0, h => cases h; go_simp
  | 1, h => cases h; go_simp
  | 2, h => cases h; go_simp
  | j + 3, h => simp at h
theorem below_appV {base : Nat} {w X Y : World} {v : Value} {n : Nat} {xs : List Value} (hB : Below base w X) (ho : X.ownsRow base 42 3 v n xs) (hb : base ≤ X.heap.size) (hg : X.grownBy Y v.ownBlock) : Below base w Y :=
  hB.grown hg hb (fun k hk => ((World.ownsRow.lt ho) k hk).1)
theorem ret_row {v : Value} {x y : Int} (h : x = y) : Ending.returned (.tuple #[v, .int .i64 x]) = .returned (.tuple #[v, .int .i64 y]) := by rw [h]
set_option maxRecDepth 20000 in
set_option maxHeartbeats 1000000 in
theorem vunpack (s : ByteArray) (w : World) :
    Calls Try.prog 18 #[.string s] w fun e w' => ((acc s ∧ ∃ v, e = .returned (.tuple #[v, .int .i64 0]) ∧ w'.ownsRow w.heap.size 42 3 v (bytN s 0) (cellsF (bytN s 0) (uK s) (uN s) (uS s))) ∨ (¬ acc s ∧ e = .returned (.tuple #[.slice none 0 0, .int .i64 4]))) ∧ Below w.heap.size w w' := by
  obtain ⟨i0, hi, hz0, hz1, hz2⟩ := info_parts infoV
  by_cases h0 : 0 < s.size
  · have hlt := bytN_lt s 0
    have he := notEmpty h0
    have g0 := bytN_get h0
    have p0 : (0 : Int) < (s.size : Int) := by omega
    have p1 : (1 : Int) ≤ (s.size : Int) := by omega
    have hy : s.extract 1 s.size = ex s 1 := rfl
    have HAC : Hid (acc s ↔ (bytN s 0 ≤ 64 ∧ pS s (bytN s 0) = some s.size)) := ⟨fun h => h.2, fun h => ⟨h0, h⟩⟩
    generalize hcc : bytN s 0 = c at *
    by_cases h64 : c ≤ 64
    · have q1 : ¬ ((64 : Int) < (c : Int)) := by omega
      go_enter Try.func18, Try.ntmps18
      go_wp2_with fail
      go_quiet (fail)
      go_wp2_with fail
      go_loopw [5, 6, 23] (fun r v y X => ∃ i p : Nat, y = .int .i64 i ∧ r = .string (ex s p) ∧ i ≤ c ∧ Hid (pS s i = some p) ∧ Hid (X.ownsRow w.heap.size 42 3 v i (cellsF i (uK s) (uN s) (uS s))) ∧ Hid (Below w.heap.size w X)) (fun _ _ y _ => c - (intOf y).toNat)
      case atStart => exact ⟨0, 1, rfl, rfl, Nat.zero_le _, (rfl : pS s 0 = some 1), World.ownsRow_nil _ _ _ _, below_drewN (Below.refl _ _) _⟩
      case round =>
        obtain ⟨i, p, rfl, rfl, hic, HP, HO, HB⟩ := hrel
        obtain ⟨hR, hpk, hft⟩ := pS_pR HP.out
        have hp := pos_le h0 hR
        have HR : Hid (pR s i = some p) := hR
        clear hR hpk hft
        by_cases hlt2 : i < c
        · have hlt3 : (i : Int) < (c : Int) := by omega
          go_wp2_with fail
          refine (vreadP _ _).mono ?_
          rintro e w1 ⟨h, hb1⟩
          have HB1 : Hid (Below w.heap.size w w1) := HB.out.trans (hb1.mono HB.out.size)
          have HO1 : Hid (w1.ownsRow w.heap.size 42 3 u6 i (cellsF i (uK s) (uN s) (uS s))) := row_below HO.out hb1
          have hws : w.heap.size ≤ w1.heap.size := HB1.out.size
          clear hb1
          rcases h with ⟨q, hq, rfl⟩ | ⟨hq, rfl⟩
          · have hsx : sxt s p = some (p + q) := by rw [sxt_ex hp.2, hq]; rfl
            have HS : Hid (pS s (i + 1) = some (p + q)) := by
              show pS s (i + 1) = some (p + q)
              rw [pS_succ HP.out]; exact hsx
            have ea := aR_of HR.out
            have e1 : vK (ex s p) 0 = uK s i := by rw [vK_ex]; unfold uK; rw [ea]
            have e2 : vN (ex s p) 0 = uN s i := by rw [vN_ex]; unfold uN; rw [ea]
            have e3 : vS (ex s p) 0 = uS s i := by rw [vS_ex]; unfold uS; rw [ea]
            rw [e1, e2, e3, ex_ex]
            clear e1 e2 e3 ea hsx hq
            have hn1 := newsV (w1.alloc (.cells #[.int .i64 (uK s i), .int .i64 (uN s i), .string (uS s i)] 42)) (uK s i) (uN s i) (uS s i)
            have HOa : Hid ((w1.alloc (.cells #[.int .i64 (uK s i), .int .i64 (uN s i), .string (uS s i)] 42)).ownsRow w.heap.size 42 3 u6 i (cellsF i (uK s) (uN s) (uS s))) := World.ownsRow.alloc HO1.out _
            go_wp2_with (at_builtin; refine wpList_append_lies _ rfl _ _ _ rfl w.heap.size 42 i0 (.agg #[.int .i64 (0), .int .i64 (0), .string (⟨#[]⟩)]) 3 32 Try.underlying22 hi hz0 hz1 hz2 rfl (by decide) _ i (cellsF i (uK s) (uN s) (uS s)) rfl (World.ownsRow.alloc HOa.out _) ⟨w1.heap.size + 1, 0, none⟩ 1 1 [.int .i64 (uK s i), .int .i64 (uN s i), .string (uS s i)] rfl rfl ?g0 ?g00 (by decide) ?g1 ?g2 ?g3 (w1.heap.size + 2) (by simp) ?_)
            case g0 => simpa using hn1
            case g00 => simp [Value.oneCell']
            case g1 => unfold maxLen; omega
            case g2 => omega
            case g3 => simp; omega
            intro g' cap2 w2 hown2 hgrow2 hat2 hlt4
            have HB2 : Hid (Below w.heap.size w w2) := below_appV ((HB1.out.alloc hws _).alloc (by simp; omega) _) (World.ownsRow.alloc HOa.out _) (by simp; omega) hgrow2
            have HO2 : Hid (w2.ownsRow w.heap.size 42 3 (.slice (some ⟨g', 0, none⟩) (i + 1) cap2) (i + 1) (cellsF (i + 1) (uK s) (uN s) (uS s))) := by
              show w2.ownsRow w.heap.size 42 3 (.slice (some ⟨g', 0, none⟩) (i + 1) cap2) (i + 1) (cellsF (i + 1) (uK s) (uN s) (uS s))
              rw [cellsF_succ]; exact hown2
            clear hn1 hown2 hgrow2 hat2 hlt4
            go_wp2
            go_roundw
            case rel => exact ⟨i + 1, p + q, by go_num, rfl, by omega, HS, HO2, HB2⟩
            case measure => simp [intOf]; omega
          · have HN : Hid (¬ acc s) := fun ha => by
              have h2 := (HAC.out.1 ha).2
              have hn : pS s (i + 1) = none := by rw [pS_succ HP.out, sxt_ex hp.2, hq]; rfl
              rw [pS_none hn c (by omega)] at h2
              cases h2
            clear hq
            go_wp2_with fail
            go_ret2
            exact ⟨.inr ⟨HN.out, rfl⟩, HB1.out.alloc hws _⟩
        · obtain rfl : i = c := by omega
          by_cases hpe : p = s.size
          · have HA : Hid (acc s) := HAC.out.2 ⟨h64, by rw [HP.out, hpe]⟩
            have hE : ex s p = ⟨#[]⟩ := empty_of (by rw [ex_size]; omega)
            rw [hE]
            go_wp2_with fail
            go_ret2
            exact ⟨.inl ⟨HA.out, _, rfl, HO.out⟩, HB.out⟩
          · have HN : Hid (¬ acc s) := fun ha => by
              have h2 := (HAC.out.1 ha).2
              rw [HP.out] at h2
              injection h2 with h2
              exact hpe h2
            have hE := notEmpty (x := ex s p) (by rw [ex_size]; omega)
            go_wp2_with fail
            go_ret2
            exact ⟨.inr ⟨HN.out, rfl⟩, HB.out⟩
    · have q1 : (64 : Int) < (c : Int) := by omega
      have HN : Hid (¬ acc s) := fun ha => h64 (HAC.out.1 ha).1
      go_enter Try.func18, Try.ntmps18
      go_wp2_with fail
      go_ret2
      exact ⟨.inr ⟨HN.out, rfl⟩, Below.refl _ _⟩
  · obtain rfl := empty_of h0
    have HN : Hid (¬ acc ⟨#[]⟩) := fun ha => h0 ha.1
    go_enter Try.func18, Try.ntmps18
    go_wp2_with fail
    go_ret2
    exact ⟨.inr ⟨HN.out, rfl⟩, Below.refl _ _⟩
end Go.Proofs.Ythimnpobcfkghaa
