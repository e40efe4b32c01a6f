/- The contracts of relstorelaw's lentTexts, sameTexts and backTexts. -/
import Derived.Test.YthimnpobcfkghaaPageR4
import Derived.Deep.AppendLies
namespace Go.Proofs.Ythimnpobcfkghaa
open Go.RowKit
attribute [local go_sem ↓] Go.wp_at_zero Go.wp_at_succ

def m7 : ByteArray := ⟨#[109, 97, 114, 107, 32, 55]⟩
def m8 : ByteArray := ⟨#[109, 97, 114, 107, 32, 56]⟩
def vS (S : Nat → ByteArray) (n : Nat) : List Value := valsS ((List.range n).map S)
theorem vS_len (S : Nat → ByteArray) (n : Nat) : (vS S n).length = n * 1 := by simp [vS, valsS]
theorem vS_get {S : Nat → ByteArray} {n i : Nat} (h : i < n) : (vS S n)[i]? = some (.string (S i)) := by
  simp [vS, valsS, h]
theorem vS_one (S : Nat → ByteArray) (n : Nat) : ∀ u ∈ vS S n, u.oneCell' = true := by
  intro u hu
  simp only [vS, valsS, List.mem_map] at hu
  obtain ⟨x, _, rfl⟩ := hu
  rfl
theorem st_news {w : World} {b off n : Nat} {S : Nat → ByteArray} (h : ∀ i, i < n → w.cell? ⟨b, off + i, none⟩ = some (.string (S i))) : ∀ j u, (vS S n)[j]? = some u → w.cell? ((⟨b, off, none⟩ : Addr).add j) = some u := by
  intro j u hj
  have hlt : j < n := by
    have := (List.getElem?_eq_some_iff.1 hj).1
    rw [vS_len] at this
    omega
  rw [vS_get hlt] at hj
  rw [Addr.add_lit, h j hlt]
  exact hj
def marksT : List Value := [.string m7, .string m8]
theorem marksT_one : ∀ u ∈ marksT, u.oneCell' = true := by
  intro u hu
  simp [marksT] at hu
  rcases hu with rfl | rfl <;> rfl
theorem newsT (w : World) : ∀ j u, marksT[j]? = some u → (w.alloc (.cells #[.string m7, .string m8] 9)).cell? ((⟨w.heap.size, 0, none⟩ : Addr).add j) = some u := by
  intro j u hj
  rw [Addr.add_lit]
  simp only [World.cell?, World.alloc_heap_new]
  match j, hj with
  | 0, h => cases h; simp
  | 1, h => cases h; simp
  | j + 2, h => simp [marksT] at h
/- n texts and two marks -/
def Ln (w : World) (g n : Nat) (S : Nat → ByteArray) : Prop := g < w.heap.size ∧ (∀ i, i < n → w.cell? ⟨g, i, none⟩ = some (.string (S i))) ∧ w.cell? ⟨g, n, none⟩ = some (.string m7) ∧ w.cell? ⟨g, n + 1, none⟩ = some (.string m8)
theorem Ln.below {w X : World} {g n : Nat} {S : Nat → ByteArray} (h : Ln w g n S) (hb : Below w.heap.size w X) : Ln X g n S :=
  ⟨keepSize hb h.1, fun i hi => keepCell hb h.1 (h.2.1 i hi), keepCell hb h.1 h.2.2.1, keepCell hb h.1 h.2.2.2⟩
theorem ln_of {w : World} {base g n cap : Nat} {S : Nat → ByteArray} (hg : g < w.heap.size) (h : w.ownsRow base 9 1 (.slice (some ⟨g, 0, none⟩) (n + 2) cap) (n + 2) (vS S n ++ marksT)) : Ln w g n S := by
  have hl := vS_len S n
  refine ⟨hg, fun i hi => ?_, ?_, ?_⟩
  · rw [h.cellAt i (by omega), List.getElem?_append_left (by omega), vS_get hi]
  · rw [h.cellAt n (by omega), List.getElem?_append_right (by omega), show n - (vS S n).length = 0 by omega]; rfl
  · rw [h.cellAt (n + 1) (by omega), List.getElem?_append_right (by omega), show n + 1 - (vS S n).length = 1 by omega]; rfl

set_option maxHeartbeats 600000 in
theorem clentT1 (b off n cap : Nat) (S : Nat → ByteArray) (w : World) (hA : ∀ i, i < n → w.cell? ⟨b, off + i, none⟩ = some (.string (S i))) (hp : 0 < n) (hn : n ≤ 1048576) :
    Calls Try.prog 25 #[.slice (some ⟨b, off, none⟩) n cap] w fun e w' => ∃ g cap', e = .returned (.slice (some ⟨g, 0, none⟩) (n + 2) cap') ∧ n + 2 ≤ cap' ∧ Ln w' g n S ∧ Below w.heap.size w w' := by
  obtain ⟨i0, hi, hz0, hz1, hz2⟩ := info_parts infoS
  have HA : Hid _ := hA
  clear hA
  go_enter Try.func25, Try.ntmps25
  go_wp2_with (at_builtin; refine wpList_append_lies _ rfl _ _ _ rfl w.heap.size 9 i0 (.string ⟨#[]⟩) 1 16 Try.underlying43 hi hz0 hz1 hz2 rfl (by decide) (.slice none 0 0) 0 [] rfl (World.ownsRow_nil _ _ _ _) ⟨b, off, none⟩ n cap (vS S n) rfl (vS_len _ _) (st_news HA.out) (vS_one _ _) hp ?h1 ?h2 ?h3 w.heap.size rfl ?_)
  case h1 => unfold maxLen; omega
  case h2 => omega
  case h3 => exact Nat.le_refl _
  intro g cap1 w1 hown hgrow hat hlt
  have hg1 : w.heap.size ≤ g := by
    rcases hat with h | h
    · cases h
    · omega
  have hs1 : w.heap.size ≤ w1.heap.size := hgrow.size
  have HB1 : Hid (Below w.heap.size w w1) := (Below.refl _ _).grown hgrow (Nat.le_refl _) (fun k h => by cases h)
  clear hat hgrow hlt
  have hn1 := newsT w1
  go_wp2_with (at_builtin; refine wpList_append_lies _ rfl _ _ _ rfl w.heap.size 9 i0 (.string ⟨#[]⟩) 1 16 Try.underlying43 hi hz0 hz1 hz2 rfl (by decide) (.slice (some ⟨g, 0, none⟩) n cap1) n (vS S n) rfl (hown.alloc _) ⟨w1.heap.size, 0, none⟩ 2 2 marksT rfl rfl hn1 marksT_one (by decide) ?g1 ?g2 ?g3 (w1.heap.size + 1) (by simp) ?_)
  case g1 => unfold maxLen; omega
  case g2 => omega
  case g3 => simp; omega
  intro g' cap2 w2 hown2 hgrow2 hat2 hlt2
  have hcap : n + 2 ≤ cap2 := by
    rcases hown2.2 with ⟨h, _⟩ | ⟨g3, cap3, cur, hv, _, _, hle, _⟩
    · cases h
    · injection hv with _ _ h3
      omega
  have HB2 : Hid (Below w.heap.size w w2) := (HB1.out.alloc hs1 _).grown hgrow2 (by simp; omega) (fun k h => by injection h with h; have h' : g = k := h; omega)
  have HL : Hid (Ln w2 g' n S) := ln_of hlt2 hown2
  clear hown hown2 hgrow2 hat2
  go_wp2
  go_ret
  exact ⟨g', cap2, rfl, hcap, HL.out, HB2.out⟩

set_option maxHeartbeats 600000 in
theorem clentT0 (a : Option Addr) (cap : Nat) (S : Nat → ByteArray) (w : World) :
    Calls Try.prog 25 #[.slice a 0 cap] w fun e w' => ∃ g cap', e = .returned (.slice (some ⟨g, 0, none⟩) (0 + 2) cap') ∧ 0 + 2 ≤ cap' ∧ Ln w' g 0 S ∧ Below w.heap.size w w' := by
  obtain ⟨i0, hi, hz0, hz1, hz2⟩ := info_parts infoS
  have hn1 := newsT w
  go_enter Try.func25, Try.ntmps25
  cases a with
  | none =>
    go_wp2_with (at_builtin; refine wpList_append_lies _ rfl _ _ _ rfl w.heap.size 9 i0 (.string ⟨#[]⟩) 1 16 Try.underlying43 hi hz0 hz1 hz2 rfl (by decide) (.slice none 0 0) 0 [] rfl (World.ownsRow_nil _ _ _ _) ⟨w.heap.size, 0, none⟩ 2 2 marksT rfl rfl hn1 marksT_one (by decide) ?g1 ?g2 ?g3 (w.heap.size + 1) (by simp) ?_)
    case g1 => decide
    case g2 => decide
    case g3 => simp
    intro g' cap2 w2 hown2 hgrow2 hat2 hlt2
    have hcap : 0 + 2 ≤ cap2 := by
      rcases hown2.2 with ⟨h, _⟩ | ⟨g3, cap3, cur, hv, _, _, hle, _⟩
      · cases h
      · injection hv with _ _ h3
        omega
    have HB2 : Hid (Below w.heap.size w w2) := (((Below.refl _ _).alloc (Nat.le_refl _) _)).grown hgrow2 (by simp) (fun k h => by cases h)
    have HL : Hid (Ln w2 g' 0 S) := ln_of (n := 0) (S := S) hlt2 hown2
    clear hown2 hgrow2 hat2
    go_wp2
    go_ret
    exact ⟨g', cap2, rfl, hcap, HL.out, HB2.out⟩
  | some ad =>
    go_wp2_with (at_builtin; refine wpList_append_lies _ rfl _ _ _ rfl w.heap.size 9 i0 (.string ⟨#[]⟩) 1 16 Try.underlying43 hi hz0 hz1 hz2 rfl (by decide) (.slice none 0 0) 0 [] rfl (World.ownsRow_nil _ _ _ _) ⟨w.heap.size, 0, none⟩ 2 2 marksT rfl rfl hn1 marksT_one (by decide) ?g1 ?g2 ?g3 (w.heap.size + 1) (by simp) ?_)
    case g1 => decide
    case g2 => decide
    case g3 => simp
    intro g' cap2 w2 hown2 hgrow2 hat2 hlt2
    have hcap : 0 + 2 ≤ cap2 := by
      rcases hown2.2 with ⟨h, _⟩ | ⟨g3, cap3, cur, hv, _, _, hle, _⟩
      · cases h
      · injection hv with _ _ h3
        omega
    have HB2 : Hid (Below w.heap.size w w2) := (((Below.refl _ _).alloc (Nat.le_refl _) _)).grown hgrow2 (by simp) (fun k h => by cases h)
    have HL : Hid (Ln w2 g' 0 S) := ln_of (n := 0) (S := S) hlt2 hown2
    clear hown2 hgrow2 hat2
    go_wp2
    go_ret
    exact ⟨g', cap2, rfl, hcap, HL.out, HB2.out⟩

theorem clentT (a : Option Addr) (n cap : Nat) (S : Nat → ByteArray) (w : World) (hA : StA w a n S) (hn : n ≤ 1048576) :
    Calls Try.prog 25 #[.slice a n cap] w fun e w' => ∃ g cap', e = .returned (.slice (some ⟨g, 0, none⟩) (n + 2) cap') ∧ n + 2 ≤ cap' ∧ Ln w' g n S ∧ Below w.heap.size w w' := by
  by_cases h0 : n = 0
  · subst h0
    exact clentT0 a cap S w
  · rcases hA with h | ⟨b, off, rfl, _, h⟩
    · exact absurd h h0
    · exact clentT1 b off n cap S w h (by omega) hn

set_option maxHeartbeats 600000 in
theorem csameT (a : Option Addr) (n cap : Nat) (a' : Option Addr) (cap' : Nat) (S T : Nat → ByteArray) (w : World) (hA : StA w a n S) (hB : StA w a' n T) (he : ∀ i, i < n → S i = T i) (hn : n ≤ 1048576) :
    Calls Try.prog 32 #[.slice a n cap, .slice a' n cap'] w fun e w' => e = .returned (.bool true) ∧ Below w.heap.size w w' := by
  have HA : Hid (StA w a n S) := hA
  have HB : Hid (StA w a' n T) := hB
  have HE : Hid _ := he
  clear hA hB he
  go_enter Try.func32, Try.ntmps32
  go_wp2_with fail
  go_loopw [13] (fun y X => ∃ k : Nat, y = .int .i64 k ∧ k ≤ n ∧ ∃ nq, X = w.drewN nq) (fun y _ => n - (intOf y).toNat)
  case atStart => exact ⟨0, rfl, Nat.zero_le _, 0, rfl⟩
  case round =>
    obtain ⟨k, rfl, hk, nq, rfl⟩ := hrel
    by_cases h0 : k < n
    · obtain ⟨b1, o1, rfl, -, hc1⟩ : ∃ b off, a = some ⟨b, off, none⟩ ∧ b < w.heap.size ∧ ∀ j, j < n → w.cell? ⟨b, off + j, none⟩ = some (.string (S j)) := by
        rcases HA.out with h | h
        · omega
        · exact h
      obtain ⟨b2, o2, rfl, -, hc2⟩ : ∃ b off, a' = some ⟨b, off, none⟩ ∧ b < w.heap.size ∧ ∀ j, j < n → w.cell? ⟨b, off + j, none⟩ = some (.string (T j)) := by
        rcases HB.out with h | h
        · omega
        · exact h
      have c1 := hc1 k h0
      have c2 := hc2 k h0
      rw [← HE.out k h0] at c2
      have i0 : (0 : Int) ≤ (k : Int) := by omega
      have i1 : (k : Int) < (n : Int) := by omega
      clear hc1 hc2
      go_wp2_with fail
      go_quiet (fail)
      go_wp2
      go_roundw
      case rel => exact ⟨k + 1, by go_num, by omega, _, rfl⟩
      case measure => simp [intOf]; omega
    · obtain rfl : k = n := by omega
      go_wp2_with fail
      go_ret
      exact ⟨rfl, below_drewN (Below.refl _ _) _⟩

theorem Ln.sta {w : World} {g n : Nat} {S : Nat → ByteArray} (h : Ln w g n S) : StA w (some ⟨g, 0, none⟩) n S :=
  .inr ⟨g, 0, rfl, h.1, fun i hi => by rw [Nat.zero_add]; exact h.2.1 i hi⟩

set_option maxHeartbeats 1000000 in
theorem cbackT (g n cap : Nat) (a : Option Addr) (cap' : Nat) (S : Nat → ByteArray) (w : World) (hcap : n + 2 ≤ cap) (hA : Ln w g n S) (hB : StA w a n S) (hn : n ≤ 1048576) :
    Calls Try.prog 28 #[.slice (some ⟨g, 0, none⟩) (n + 2) cap, .slice a n cap'] w fun e w' => e = .returned (.bool true) ∧ Below w.heap.size w w' := by
  have HA : Hid (Ln w g n S) := hA
  have HB : Hid (StA w a n S) := hB
  clear hA hB
  go_enter Try.func28, Try.ntmps28
  go_wp2_with fail
  refine (csameT _ n cap a cap' S S _ HA.out.sta HB.out (fun _ _ => rfl) hn).mono ?_
  rintro e w1 ⟨rfl, hb⟩
  have Hb : Hid _ := hb
  have q0 := keepCell hb HA.out.1 HA.out.2.2.1
  have q1 := keepCell hb HA.out.1 HA.out.2.2.2
  clear hb
  have i1 : (0 : Int) ≤ (n : Int) := by omega
  have e7 : m7 = ⟨#[109, 97, 114, 107, 32, 55]⟩ := rfl
  have e8 : m8 = ⟨#[109, 97, 114, 107, 32, 56]⟩ := rfl
  go_wp2
  go_ret
  exact ⟨rfl, Hb.out⟩
end Go.Proofs.Ythimnpobcfkghaa
