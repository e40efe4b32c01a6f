/- relstorelaw.DiskRuns -/
import Derived.Test.YtfjkockcgddgbaaDrsK
namespace Go.Proofs.Ytfjkockcgddgbaa
open Go.RowKit Go.Lib
attribute [local go_sem ↓] Go.wp_at_zero Go.wp_at_succ
theorem DR.zero {w : World} {B D R : Nat} (hP : PD w B D (fun _ => .slice none 0 0) (.slice none 0 0) (fun _ => []) [] (-1) 0 false) (hR : RD w B R ⟨#[]⟩ ⟨#[]⟩ (.slice none 0 0) [] (-1) 0 false) : DR w B D R 0 :=
  ⟨_, _, _, _, _, _, _, _, _, _, hP, hR, rfl, rfl, ⟨rfl, rfl⟩, Nat.le_refl _, ⟨by omega, by omega⟩, ⟨by omega, by omega⟩⟩
set_option maxRecDepth 20000 in
set_option maxHeartbeats 1000000 in
theorem ldiskruns (sa : Option Addr) (sl sc : Nat) (A : Nat → ActD) (X : World) (hl : liesActs X sa sl A) (hn : sl ≤ 140737488355328) (hc : sl ≤ sc) (ha : sa = none → sl = 0 ∧ sc = 0) :
    Calls Try.prog 3 #[.slice sa sl sc] X fun e w' => e = .returned (.bool true) ∧ Below X.heap.size X w' := by
  have HL : Hid _ := hl
  have HA : Hid _ := ha
  clear hl ha
  go_enter Try.func3, Try.ntmps3
  go_wp2_with fail
  refine (cnew X).mono ?_
  rintro e w1 ⟨rfl, hP, hb1⟩
  have zb1 := hb1.size
  go_wp2_with fail
  refine (rnew w1 X.heap.size zb1).mono ?_
  rintro e w2 ⟨rfl, hR, hb2⟩
  have H0 : Hid (DR w2 X.heap.size X.heap.size w1.heap.size 0) := DR.zero (hP.below hb2) hR
  have HB0 : Hid (Below X.heap.size X w2) := hb1.trans (hb2.mono zb1)
  clear hP hR hb1 hb2
  go_wp2_with fail
  refine (lshort sa sl sc w2 hn hc HA.out).mono ?_
  rintro e w3 ⟨rfl, rfl⟩
  generalize w1.heap.size = R at *
  go_wp2_with fail
  go_loopw [14] (fun u w => ∃ (i : Nat), u = .int .i64 i ∧ i ≤ min sl 250 ∧ Hid (DR w X.heap.size X.heap.size R i) ∧ Hid (Below X.heap.size X w)) (fun u _ => min sl 250 - (intOf u).toNat)
  case atStart => exact ⟨0, rfl, Nat.zero_le _, H0, HB0⟩
  case round =>
    obtain ⟨i, rfl, hin, HQ, HB⟩ := hrel
    by_cases hlt : i < min sl 250
    · have hsl : i < sl := by omega
      have hi2 : i < 250 := by omega
      rcases HL.out with h0 | ⟨b, off, rfl, hbX, hE⟩
      · omega
      have ki : (0 : Int) ≤ (i : Int) := by omega
      have kn : (i : Int) < ((min sl 250 : Nat) : Int) := by omega
      have zb := HB.out.size
      have hbw : b < wr.heap.size := by omega
      have g : ∀ j, j < 8 → wr.cell? ⟨b, off + (i * 8 + j), none⟩ = (actCells (A i))[j]? := fun j hj => (HB.out.cell (p := ⟨b, off + (i * 8 + j), none⟩) hbX).trans ((hE i hsl).2 j hj)
      have d0 : wr.cell? ⟨b, off + i * 8, none⟩ = some (.int .i64 (A i).k) := g 0 (by decide)
      have d1 : wr.cell? ⟨b, off + i * 8 + 1, none⟩ = some (.int .i64 (A i).f) := g 1 (by decide)
      have d2 : wr.cell? ⟨b, off + i * 8 + 2, none⟩ = some (.int .i64 (A i).a) := g 2 (by decide)
      have d3 : wr.cell? ⟨b, off + i * 8 + 3, none⟩ = some (.int .i64 (A i).n) := g 3 (by decide)
      have d4 : wr.cell? ⟨b, off + i * 8 + 4, none⟩ = some (.string (A i).s) := g 4 (by decide)
      have d5 : wr.cell? ⟨b, off + i * 8 + 5, none⟩ = some (.string (A i).t) := g 5 (by decide)
      have d6 : wr.cell? ⟨b, off + i * 8 + 6, none⟩ = some (.slice (A i).kp (A i).kn (A i).kc) := g 6 (by decide)
      have d7 : wr.cell? ⟨b, off + i * 8 + 7, none⟩ = some (.slice (A i).ca (A i).cn (A i).cc) := g 7 (by decide)
      have OK : Hid (okAct wr X.heap.size (A i)) := (hE i hsl).1.below HB.out
      clear g hE
      go_wp2_with fail
      refine (ldisks (A i) _ X.heap.size X.heap.size R i (by omega) (OK.out.below ((Below.refl _ _).alloc zb _)) (HQ.out.below ((Below.refl _ _).alloc (Nat.le_refl _) _))).mono ?_
      rintro e w4 ⟨rfl, hD4, hb4⟩
      have HD4 : Hid (DR w4 X.heap.size X.heap.size R (i + 1)) := hD4
      have HB4 : Hid (Below X.heap.size X w4) := (HB.out.alloc zb _).trans hb4
      have zb4 := HB4.out.size
      clear hD4 hb4 d0 d1 d2 d3 d4 d5 d6 d7
      go_wp2_with fail
      refine (lfiles w4 X.heap.size X.heap.size R (i + 1) (by omega) HD4.out).mono ?_
      rintro e w5 ⟨rfl, hb5⟩
      have HD5 : Hid (DR w5 X.heap.size X.heap.size R (i + 1)) := DR.below HD4.out hb5
      have HB5 : Hid (Below X.heap.size X w5) := HB4.out.trans (hb5.mono zb4)
      clear hb5
      go_wp2_with fail
      first | exact ⟨⟨i + 1, rfl, by omega, HD5, HB5⟩, by simp [intOf]; omega⟩ | (go_roundw; (case rel => exact ⟨i + 1, by go_num, by omega, HD5, HB5⟩); (case measure => simp [intOf]; omega))
    · obtain rfl : i = min sl 250 := by omega
      go_wp2_with fail
      go_ret
      exact ⟨rfl, HB.out⟩
end Go.Proofs.Ytfjkockcgddgbaa
