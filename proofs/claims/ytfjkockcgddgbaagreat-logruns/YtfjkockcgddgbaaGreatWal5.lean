/- package wal: Back, tell -/
import Derived.Test.YtfjkockcgddgbaaGreatWal4
namespace Go.Proofs.YtfjkockcgddgbaaGreat
open Go.RowKit Go.Lib
attribute [local go_sem ↓] Go.wp_at_zero Go.wp_at_succ
def bkL (L : LS) : LS := { L with fr := L.last.frames, fh := fun _ => none }
set_option maxRecDepth 20000 in
set_option maxHeartbeats 1000000 in
theorem cback (X : World) (B D G bp bf m : Nat) (L : LS) (S : DS) (h : PL X B D G bp bf m L S) (hB : B ≤ X.heap.size) :
    Calls Tryz.prog 18 #[(.pointer (some ⟨G, 0, none⟩))] X fun e w' => e = .returned (.tuple #[]) ∧ PL w' B D G bp bf m (bkL L) S ∧ BelL G bp bf B X w' := by
  obtain ⟨c0, c1, c2, c3, c4, c5, c6, c7⟩ := h.cells
  have f5 := h.unfrozen 5
  have HP : Hid (PL (X.setCell ⟨G, 5, none⟩ (.int .i64 L.last.frames)) B D G bp bf m { L with fr := L.last.frames } S) := h.own rfl rfl rfl
  have HB0 : Hid (B ≤ X.heap.size) := hB
  obtain ⟨Y, hrun, hMI, hgY⟩ := HP.out.mf.clear 0
  have HY : Hid (PL Y B D G bp bf m (bkL L) S) := HP.out.fresh hgY (hMI.mono (Nat.zero_le _)) (Nat.le_refl _)
  have HFY : Hid (BelL G bp bf B X Y) := (grown_log (set_grown _ _ _ _) hB (.inl rfl) h.low.1).trans (grown_log hgY (by simpa using hB) (.inr (.inr rfl)) h.low.2.2)
  clear h hB hMI hgY
  go_enter Tryz.func18, Tryz.ntmps18
  go_wp2
  go_end0
  exact ⟨rfl, HY.out, HFY.out⟩
theorem far_of {T : TypeId → Bool} {X : World} {b : Nat} {cs : Array Value} {t : TypeId} {fz : Nat × Nat} (h : X.heap[b]? = some (.cells cs t fz)) (ht : T t = false) : farT T X b := fun cur e f he => by
  rw [h] at he
  injection he with he
  injection he with _ h2 _
  rw [← h2]
  exact ht
theorem PL.told {X : World} {B D G bp bf n : Nat} {L : LS} {S : DS} (h : PL X B D G bp bf n L S) (c : Cm) (f : Nat) : PL (((((X.setCell ⟨G, 1, none⟩ (.int .i64 c.slot)).setCell ⟨G, 2, none⟩ (.int .i64 c.number)).setCell ⟨G, 3, none⟩ (.int .i64 c.frames)).setCell ⟨G, 4, none⟩ (.int .i64 c.pages)).setCell ⟨G, 5, none⟩ (.int .i64 f)) B D G bp bf n { L with last := c, fr := f } S := by
  have h1 : PL (X.setCell ⟨G, 1, none⟩ (.int .i64 c.slot)) B D G bp bf n { L with last := ⟨c.slot, L.last.number, L.last.frames, L.last.pages⟩ } S := h.own rfl rfl rfl
  have h2 : PL ((X.setCell ⟨G, 1, none⟩ (.int .i64 c.slot)).setCell ⟨G, 2, none⟩ (.int .i64 c.number)) B D G bp bf n { L with last := ⟨c.slot, c.number, L.last.frames, L.last.pages⟩ } S := h1.own rfl rfl rfl
  have h3 : PL (((X.setCell ⟨G, 1, none⟩ (.int .i64 c.slot)).setCell ⟨G, 2, none⟩ (.int .i64 c.number)).setCell ⟨G, 3, none⟩ (.int .i64 c.frames)) B D G bp bf n { L with last := ⟨c.slot, c.number, c.frames, L.last.pages⟩ } S := h2.own rfl rfl rfl
  have h4 : PL ((((X.setCell ⟨G, 1, none⟩ (.int .i64 c.slot)).setCell ⟨G, 2, none⟩ (.int .i64 c.number)).setCell ⟨G, 3, none⟩ (.int .i64 c.frames)).setCell ⟨G, 4, none⟩ (.int .i64 c.pages)) B D G bp bf n { L with last := c } S := h3.own rfl rfl rfl
  exact h4.own rfl rfl rfl
theorem told_log (X : World) {B G bp bf : Nat} (v1 v2 v3 v4 v5 : Value) (hB : B ≤ X.heap.size) (hG : B ≤ G) : BelL G bp bf B X (((((X.setCell ⟨G, 1, none⟩ v1).setCell ⟨G, 2, none⟩ v2).setCell ⟨G, 3, none⟩ v3).setCell ⟨G, 4, none⟩ v4).setCell ⟨G, 5, none⟩ v5) :=
  grown_log ((((((But.refl X (some G)).set 1 v1).set 2 v2).set 3 v3).set 4 v4).set 5 v5) hB (.inl rfl) hG
/- a commit told in the other slot -/
def flC (c : Cm) (fr pg : Nat) : Cm := ⟨1 - c.slot, nxN c.number, fr, pg⟩
def tlL (L : LS) (S : DS) (fr pg : Nat) : Int × LS × DS :=
  if (opD S 1 (16 + 24 * ((1 - L.last.slot : Nat) : Int)) (txtB (nxN L.last.number) fr pg) false).1 = 0 then
    (if (synD (opD S 1 (16 + 24 * ((1 - L.last.slot : Nat) : Int)) (txtB (nxN L.last.number) fr pg) false).2 1).1 = 0 then (0, { L with last := flC L.last fr pg, fr := fr }, (synD (opD S 1 (16 + 24 * ((1 - L.last.slot : Nat) : Int)) (txtB (nxN L.last.number) fr pg) false).2 1).2)
     else ((synD (opD S 1 (16 + 24 * ((1 - L.last.slot : Nat) : Int)) (txtB (nxN L.last.number) fr pg) false).2 1).1, L, (synD (opD S 1 (16 + 24 * ((1 - L.last.slot : Nat) : Int)) (txtB (nxN L.last.number) fr pg) false).2 1).2))
  else ((opD S 1 (16 + 24 * ((1 - L.last.slot : Nat) : Int)) (txtB (nxN L.last.number) fr pg) false).1, L, (opD S 1 (16 + 24 * ((1 - L.last.slot : Nat) : Int)) (txtB (nxN L.last.number) fr pg) false).2)
set_option maxRecDepth 20000 in
set_option maxHeartbeats 1000000 in
theorem ctell (fr pg : Nat) (X : World) (B D G bp bf m k : Nat) (L : LS) (S : DS) (h : PL X B D G bp bf m L S) (hB : B ≤ X.heap.size) (ho : okS S k) (hk : k ≤ 900000) (hc : okCm L.last) (r1 r2 : Int) (S1 S2 : DS) (h1 : opD S 1 (16 + 24 * ((1 - L.last.slot : Nat) : Int)) (txtB (nxN L.last.number) fr pg) false = (r1, S1)) (h2 : synD S1 1 = (r2, S2)) :
    Calls Tryz.prog 63 #[(.pointer (some ⟨G, 0, none⟩)), .int .i64 fr, .int .i64 pg] X fun e w' => e = .returned (.int .i64 (if r1 = 0 then r2 else r1)) ∧ PL w' B D G bp bf m (if r1 = 0 ∧ r2 = 0 then { L with last := flC L.last fr pg, fr := fr } else L) (if r1 = 0 then S2 else S1) ∧ BelL G bp bf B X w' := by
  obtain ⟨c0, c1, c2, c3, c4, c5, c6, c7⟩ := h.cells
  have HP : Hid (PL X B D G bp bf m L S) := h
  have HB0 : Hid (B ≤ X.heap.size) := hB
  have HO : Hid (okS S k ∧ okS S1 (k + 1) ∧ k + 1 ≤ 1000000) := (⟨ho, by have := opD_ok ho 1 (16 + 24 * ((1 - L.last.slot : Nat) : Int)) (txtB (nxN L.last.number) fr pg) false; rw [h1] at this; exact this, by omega⟩ : okS S k ∧ okS S1 (k + 1) ∧ k + 1 ≤ 1000000)
  have HC : Hid _ := hc
  have H1 : Hid _ := h1
  have H2 : Hid _ := h2
  clear h hB ho hk hc h1 h2
  go_enter Tryz.func63, Tryz.ntmps63
  go_wp2_with fail
  refine (cfollowing L.last.slot L.last.number L.last.frames L.last.pages fr pg _ HC.out.slot (Nat.le_trans HC.out.number (by decide))).mono ?_
  rintro e w1 ⟨rfl, hb1⟩
  have HL1 : Hid (PL w1 B D G bp bf m L S) := HP.out.below hb1
  have HX1 : Hid (Below X.heap.size X w1) := hb1
  clear hb1 c0 c1 c2 c3 c4 c5 c6 c7 HP
  obtain ⟨c0, c1, c2, c3, c4, c5, c6, c7⟩ := HL1.out.cells
  have hG : G < w1.heap.size := HL1.out.lt
  obtain ⟨sl, hsl⟩ : ∃ sl : Nat, sl = 1 - L.last.slot := ⟨_, rfl⟩
  have s0 : Hid ((0 : Int) ≤ (sl : Int)) := (by omega : (0 : Int) ≤ (sl : Int))
  have s1 : Hid ((sl : Int) ≤ 1) := (by omega : (sl : Int) ≤ 1)
  rw [← hsl] at H1 ⊢
  have HSL : Hid _ := hsl
  clear hsl
  obtain ⟨nn, hnn⟩ : ∃ nn : Nat, nn = nxN L.last.number := ⟨_, rfl⟩
  rw [← hnn] at H1 ⊢
  have HNN : Hid _ := hnn
  clear hnn
  go_wp2_with fail
  go_region_with (first | (go_at_call 100; refine (cslotAt _ _ s0.out s1.out).mono ?_; rintro e w3 ⟨rfl, hw⟩; rw [hw]; clear hw) | (go_at_call 90; refine (ctext sl nn fr pg _).mono ?_; rintro e w4 ⟨rfl, hb4⟩; have HY4 : Hid (Below (w1.alloc (.cells #[.int .i64 sl, .int .i64 nn, .int .i64 fr, .int .i64 pg] 91)).heap.size (w1.alloc (.cells #[.int .i64 sl, .int .i64 nn, .int .i64 fr, .int .i64 pg] 91)) w4) := undrewB hb4; obtain ⟨hc4, hf4⟩ := bcell HY4.out; clear hb4) | (go_at_call 58; have HX4 : Hid (Below w1.heap.size w1 w4) := keepBelow ((Below.refl _ _).alloc (Nat.le_refl _) _) HY4.out; refine (cwriteD 1 (16 + 24 * (sl : Int)) (txtB nn fr pg) _ B D S k (HL1.out.dsk.below HX4.out) (Nat.le_trans HB0.out (Nat.le_trans HX1.out.size HX4.out.size)) HO.out.1 (by have := HO.out.2.2; omega)).mono ?_; rw [H1.out]; rintro e w5 ⟨rfl, hp5, hb5⟩))
  all_goals
    have HL5 : Hid (PL w5 B D G bp bf m L S1) := (HL1.out.below HX4.out).disk hb5 hp5
    have HF5 : Hid (BelL G bp bf B X w5) := (below_log HX1.out HB0.out G bp bf).trans ((below_log HX4.out (Nat.le_trans HB0.out HX1.out.size) G bp bf).trans (hb5.log G bp bf))
    have HC5 : Hid (w5.heap[w1.heap.size]? = some (.cells #[.int .i64 sl, .int .i64 nn, .int .i64 fr, .int .i64 pg] 91 (0, 0))) := by
      have e4 : w4.heap[w1.heap.size]? = some (.cells #[.int .i64 sl, .int .i64 nn, .int .i64 fr, .int .i64 pg] 91 (0, 0)) := (HY4.out.block _ (by simp)).trans (heap_alloc_new w1 _)
      exact (hb5.far _ (Array.getElem?_eq_some_iff.1 e4).1 (far_of e4 (by decide))).trans e4
    clear hp5 hb5 HX4 hc4 hf4 HY4 c0 c1 c2 c3 c4 c5 c6 c7
    obtain ⟨c0, c1, c2, c3, c4, c5, c6, c7⟩ := HL5.out.cells
    by_cases hr : r1 = 0
    · subst hr
      go_wp2_with fail
      refine (csyncD 1 _ B D S1 (k + 1) HL5.out.dsk (Nat.le_trans HB0.out HF5.out.size) HO.out.2.1 HO.out.2.2).mono ?_
      rw [H2.out]
      rintro e w6 ⟨rfl, hp6, hb6⟩
      have HL6 : Hid (PL w6 B D G bp bf m L S2) := HL5.out.disk hb6 hp6
      have HF6 : Hid (BelL G bp bf B X w6) := HF5.out.trans (hb6.log G bp bf)
      have hC6 : w6.heap[w1.heap.size]? = some (.cells #[.int .i64 sl, .int .i64 nn, .int .i64 fr, .int .i64 pg] 91 (0, 0)) := (hb6.far _ (Array.getElem?_eq_some_iff.1 HC5.out).1 (far_of HC5.out (by decide))).trans HC5.out
      clear hp6 hb6 HC5 HL5 HF5 c0 c1 c2 c3 c4 c5 c6 c7
      obtain ⟨c0, c1, c2, c3, c4, c5, c6, c7⟩ := HL6.out.cells
      obtain ⟨⟨b0, b1, b2, b3⟩, -, lb⟩ := wcell4 hC6
      clear hC6
      by_cases hr2 : r2 = 0
      · subst hr2
        have f1 := HL6.out.unfrozen 1
        have f2 := HL6.out.unfrozen 2
        have f3 := HL6.out.unfrozen 3
        have f4 := HL6.out.unfrozen 4
        have f5 := HL6.out.unfrozen 5
        have HE : Hid (flC L.last fr pg = ⟨sl, nn, fr, pg⟩) := by
          show flC L.last fr pg = ⟨sl, nn, fr, pg⟩
          rw [HSL.out, HNN.out]
          rfl
        go_wp2
        go_ret
        exact ⟨rfl, by rw [HE.out]; exact HL6.out.told ⟨sl, nn, fr, pg⟩ fr, HF6.out.trans (told_log w6 _ _ _ _ _ (Nat.le_trans HB0.out HF6.out.size) HL6.out.low.1)⟩
      · have hr' : (r2 == 0) = false := by simpa using hr2
        go_wp2
        go_ret
        exact ⟨rfl, by simpa using HL6.out, HF6.out⟩
    · have hr' : (r1 == 0) = false := by simpa using hr
      go_wp2
      go_ret
      exact ⟨rfl, by simpa using HL5.out, HF5.out⟩
end Go.Proofs.YtfjkockcgddgbaaGreat
