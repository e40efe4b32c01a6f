/- value.Unkey -/
import Derived.Test.YthimnpobcfkghaaKeyE
namespace Go.Proofs.Ythimnpobcfkghaa
open Go.RowKit Go.Lib
attribute [local go_sem ↓] Go.wp_at_zero Go.wp_at_succ
def strSize : Value → Nat
  | .string x => x.size
  | _ => 0
theorem strSize_mk (x : ByteArray) : strSize (.string x) = x.size := rfl
set_option maxRecDepth 20000 in
set_option maxHeartbeats 1000000 in
theorem vunkey (s : ByteArray) (w : World) (hs : s.size ≤ 1099511000000) :
    Calls Try.prog 7 #[.string s] w fun e w' => ((∃ n v, isKey s n ∧ e = .returned (.tuple #[v, .int .i64 0]) ∧ w'.ownsRow w.heap.size 42 3 v n (cellsF n (yK s) (yN s) (yS s))) ∨ ((¬ ∃ n, isKey s n) ∧ e = .returned (.tuple #[.slice none 0 0, .int .i64 4]))) ∧ Below w.heap.size w w' := by
  obtain ⟨i0, hi, hz0, hz1, hz2⟩ := info_parts infoV
  go_enter Try.func7, Try.ntmps7
  go_wp2_with fail
  go_loopw [0, 4] (fun r v X => ∃ i p : Nat, r = .string (ex s p) ∧ i ≤ p ∧ p ≤ s.size ∧ Hid (kP s i = some p) ∧ Hid (X.ownsRow w.heap.size 42 3 v i (cellsF i (yK s) (yN s) (yS s))) ∧ Hid (Below w.heap.size w X)) (fun r _ _ => strSize r)
  case atStart => exact ⟨0, 0, by rw [ex_0], Nat.le_refl _, Nat.zero_le _, (rfl : kP s 0 = some 0), World.ownsRow_nil _ _ _ _, Below.refl _ _⟩
  case round =>
    obtain ⟨i, p, rfl, hip, hp, HP, HO, HB⟩ := hrel
    by_cases hlt : p < s.size
    · have hE := notEmpty (x := ex s p) (by rw [ex_size]; omega)
      go_wp2_with fail
      refine (vreadKey _ _ (by rw [ex_size]; omega) (by rw [ex_size]; omega)).mono ?_
      rintro e w1 ⟨h, hb1⟩
      have HB1 : Hid (Below w.heap.size w w1) := HB.out.trans (hb1.mono HB.out.size)
      have HO1 : Hid (w1.ownsRow w.heap.size 42 3 u4 i (cellsF i (yK s) (yN s) (yS s))) := row_below HO.out hb1
      have hws : w.heap.size ≤ w1.heap.size := HB1.out.size
      clear hb1
      rcases h with ⟨q, hq, rfl⟩ | ⟨hq, rfl⟩
      · have hsx : kn s p = some (p + q) := by rw [kn_ex hp, hq]; rfl
        have HS : Hid (kP s (i + 1) = some (p + q)) := by
          show kP s (i + 1) = some (p + q)
          rw [kP_succ HP.out]; exact hsx
        obtain ⟨_, hq1, hq2⟩ := kn_bytes hsx
        have ea := kA_of HP.out
        have e1 : wK (ex s p) 0 = yK s i := by rw [wK_ex]; unfold yK; rw [ea]
        have e2 : wN (ex s p) 0 = yN s i := by rw [wN_ex]; unfold yN; rw [ea]
        have e3 : wS (ex s p) 0 = yS s i := by rw [wS_ex]; unfold yS; rw [ea]
        rw [e1, e2, e3, ex_ex]
        clear e1 e2 e3 ea hsx hq
        have hn1 := newsV (w1.alloc (.cells #[.int .i64 (yK s i), .int .i64 (yN s i), .string (yS s i)] 42)) (yK s i) (yN s i) (yS s i)
        have HOa : Hid ((w1.alloc (.cells #[.int .i64 (yK s i), .int .i64 (yN s i), .string (yS s i)] 42)).ownsRow w.heap.size 42 3 u4 i (cellsF i (yK s) (yN s) (yS s))) := World.ownsRow.alloc HO1.out _
        go_wp2_with (at_builtin; refine wpList_append_lies _ rfl _ _ _ rfl w.heap.size 42 i0 (.agg #[.int .i64 (0), .int .i64 (0), .string (⟨#[]⟩)]) 3 32 Try.underlying22 hi hz0 hz1 hz2 rfl (by decide) _ i (cellsF i (yK s) (yN s) (yS s)) rfl (World.ownsRow.alloc HOa.out _) ⟨w1.heap.size + 1, 0, none⟩ 1 1 [.int .i64 (yK s i), .int .i64 (yN s i), .string (yS s i)] rfl rfl ?g0 ?g00 (by decide) ?g1 ?g2 ?g3 (w1.heap.size + 2) (by simp) ?_)
        case g0 => simpa using hn1
        case g00 => simp [Value.oneCell']
        case g1 => unfold maxLen; omega
        case g2 => omega
        case g3 => simp; omega
        intro g' cap2 w2 hown2 hgrow2 hat2 hlt4
        have HB2 : Hid (Below w.heap.size w w2) := below_appV ((HB1.out.alloc hws _).alloc (by simp; omega) _) (World.ownsRow.alloc HOa.out _) (by simp; omega) hgrow2
        have HO2 : Hid (w2.ownsRow w.heap.size 42 3 (.slice (some ⟨g', 0, none⟩) (i + 1) cap2) (i + 1) (cellsF (i + 1) (yK s) (yN s) (yS s))) := by
          show w2.ownsRow w.heap.size 42 3 (.slice (some ⟨g', 0, none⟩) (i + 1) cap2) (i + 1) (cellsF (i + 1) (yK s) (yN s) (yS s))
          rw [cellsF_succ]; exact hown2
        clear hn1 hown2 hgrow2 hat2 hlt4
        go_wp2_with fail
        exact ⟨⟨i + 1, p + q, rfl, by omega, by omega, HS, HO2, HB2⟩, by rw [strSize_mk, strSize_mk, ex_size, ex_size]; omega⟩
      · have HN : Hid (¬ ∃ n, isKey s n) := notKey HP.out hlt (by rw [kn_ex hp, hq]; rfl)
        clear hq
        go_wp2_with fail
        go_ret2
        exact ⟨.inr ⟨HN.out, rfl⟩, HB1.out.alloc hws _⟩
    · have HA : Hid (isKey s i) := by
        show kP s i = some s.size
        rw [HP.out, show p = s.size by omega]
      have hE : ex s p = ⟨#[]⟩ := empty_of (by rw [ex_size]; omega)
      rw [hE]
      go_wp2_with fail
      go_ret2
      exact ⟨.inl ⟨i, _, HA.out, rfl, HO.out⟩, HB.out⟩
end Go.Proofs.Ythimnpobcfkghaa
