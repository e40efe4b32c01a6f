/- package wal: Open -/
import Derived.Test.YtfjkockcgddgbaaGreatWal9
namespace Go.Proofs.YtfjkockcgddgbaaGreat
open Go.RowKit Go.Lib
attribute [local go_sem ↓] Go.wp_at_zero Go.wp_at_succ
theorem told_fits {head : ByteArray} {p slot size : Nat} (h : 0 < (toldA head p slot size).frames) : 64 + 1028 * (toldA head p slot size).frames ≤ size := by
  unfold toldA at h ⊢
  split at h
  · cases h
  · rename_i a1
    rw [if_neg a1]
    split at h
    · cases h
    · rename_i a2
      rw [if_neg a2]
      split at h
      · cases h
      · rename_i a3
        rw [if_neg a3]
        split at h
        · cases h
        · rename_i a4
          rw [if_neg a4]
          have h' : 0 < numB head (p + 4) := h
          show 64 + 1028 * numB head (p + 4) ≤ size
          omega
theorem last_fits {log : List UInt8} (h : 0 < (lastC log).frames) : 64 + 1028 * (lastC log).frames ≤ log.length := by
  unfold lastC at h ⊢
  split at h
  · rename_i a
    rw [if_pos a]
    unfold pickC at h ⊢
    split at h
    · rename_i b
      rw [if_pos b]
      exact told_fits h
    · rename_i b
      rw [if_neg b]
      exact told_fits h
  · cases h
/- a log just opened -/
def opnL (log : List UInt8) : LS := ⟨lastC log, (lastC log).frames, fndM log (fun _ => none) (lastC log).frames, fun _ => none⟩
def newW (Y : World) (D : Nat) (c : Cm) : World := (((Y.alloc (.cells #[.int .i64 c.slot, .int .i64 c.number, .int .i64 c.frames, .int .i64 c.pages] 91)).alloc (.map #[] 0)).alloc (.map #[] 0)).alloc (.cells #[(.pointer (some ⟨D, 0, none⟩)), .int .i64 c.slot, .int .i64 c.number, .int .i64 c.frames, .int .i64 c.pages, .int .i64 c.frames, .map (some (Y.heap.size + 1)), .map (some (Y.heap.size + 1 + 1))] 96)
theorem newW_below (Y : World) (D : Nat) (c : Cm) : Below Y.heap.size Y (newW Y D c) := ((((Below.refl _ _).alloc (Nat.le_refl _) _).alloc (by simp) _).alloc (by simp; omega) _).alloc (by simp; omega) _
theorem plNew (Y : World) (B D : Nat) (S : DS) (c : Cm) (h : PDs Y B D S) (hB : B ≤ Y.heap.size) : PL (newW Y D c) B D (Y.heap.size + 1 + 1 + 1) (Y.heap.size + 1) (Y.heap.size + 1 + 1) 0 ⟨c, c.frames, fun _ => none, fun _ => none⟩ S := by
  have s1 : (Y.alloc (.cells #[.int .i64 c.slot, .int .i64 c.number, .int .i64 c.frames, .int .i64 c.pages] 91)).heap.size = Y.heap.size + 1 := by simp
  have s2 : ((Y.alloc (.cells #[.int .i64 c.slot, .int .i64 c.number, .int .i64 c.frames, .int .i64 c.pages] 91)).alloc (.map #[] 0)).heap.size = Y.heap.size + 1 + 1 := by simp
  have s3 : (((Y.alloc (.cells #[.int .i64 c.slot, .int .i64 c.number, .int .i64 c.frames, .int .i64 c.pages] 91)).alloc (.map #[] 0)).alloc (.map #[] 0)).heap.size = Y.heap.size + 1 + 1 + 1 := by simp
  refine ⟨?_, ⟨by omega, by omega, by omega⟩, by omega, ?_, ?_, h.below (newW_below Y D c)⟩
  · have := heap_alloc_new (((Y.alloc (.cells #[.int .i64 c.slot, .int .i64 c.number, .int .i64 c.frames, .int .i64 c.pages] 91)).alloc (.map #[] 0)).alloc (.map #[] 0)) (.cells #[(.pointer (some ⟨D, 0, none⟩)), .int .i64 c.slot, .int .i64 c.number, .int .i64 c.frames, .int .i64 c.pages, .int .i64 c.frames, .map (some (Y.heap.size + 1)), .map (some (Y.heap.size + 1 + 1))] 96)
    rw [s3] at this
    exact this
  · have := MI.made (Y.alloc (.cells #[.int .i64 c.slot, .int .i64 c.number, .int .i64 c.frames, .int .i64 c.pages] 91))
    rw [s1] at this
    exact this.keep ((heap_alloc_old _ _ (by rw [s3]; omega)).trans (heap_alloc_old _ _ (by rw [s2]; omega)))
  · have := MI.made ((Y.alloc (.cells #[.int .i64 c.slot, .int .i64 c.number, .int .i64 c.frames, .int .i64 c.pages] 91)).alloc (.map #[] 0))
    rw [s2] at this
    exact this.keep (heap_alloc_old _ _ (by rw [s3]; omega))
set_option maxRecDepth 20000 in
set_option maxHeartbeats 1000000 in
theorem copen (X : World) (B D : Nat) (S : DS) (h : PDs X B D S) (hB : B ≤ X.heap.size) (hd : S.down = false) (hn : ¬ (lastC (S.lb 2)).number = 0) :
    Calls Tryz.prog 7 #[(.pointer (some ⟨D, 0, none⟩))] X fun e w' => ∃ G bp bf, e = .returned (.tuple #[(.pointer (some ⟨G, 0, none⟩)), .int .i64 0]) ∧ PL w' B D G bp bf (lastC (S.lb 2)).frames (opnL (S.lb 2)) S ∧ Below X.heap.size X w' := by
  have hlen := h.len 2 (by decide)
  have hfit := last_fits (log := S.lb 2)
  have hok := last_ok (S.lb 2)
  have HP : Hid (PDs X B D S) := h
  have HD : Hid _ := hd
  have hmm := @run_makeMap Tryz.prog
  clear h
  go_enter Tryz.func7, Tryz.ntmps7
  go_wp2_with fail
  refine (clastC _ B D S HP.out hd hlen).mono ?_
  rintro e w1 ⟨rfl, hb1⟩
  obtain ⟨c, hc⟩ : ∃ c, c = lastC (S.lb 2) := ⟨_, rfl⟩
  rw [← hc] at hn hfit hok ⊢
  obtain ⟨sl, nm, fr, pg⟩ := c
  have HN : Hid (PL (newW w1 D ⟨sl, nm, fr, pg⟩) B D (w1.heap.size + 1 + 1 + 1) (w1.heap.size + 1) (w1.heap.size + 1 + 1) 0 ⟨⟨sl, nm, fr, pg⟩, fr, fun _ => none, fun _ => none⟩ S) := plNew w1 B D S _ (HP.out.below hb1) (Nat.le_trans hB hb1.size)
  have HW : Hid (Below X.heap.size X (newW w1 D ⟨sl, nm, fr, pg⟩)) := keepBelow hb1 (newW_below _ _ _)
  have i1 : ((nm : Int) == 0) = false := by
    have : ¬ (nm : Int) = 0 := fun h => hn (by show nm = 0; omega)
    simpa using this
  have hf2 : fr ≤ 65536 := by
    rcases Nat.eq_zero_or_pos fr with h | h
    · omega
    · have := hfit h
      have : 64 + 1028 * fr ≤ (S.lb 2).length := this
      omega
  have HX1 : Hid (X.heap.size ≤ w1.heap.size) := hb1.size
  have HFD : Hid (∀ e w', (e = Ending.returned (.int .i64 0) ∧ PL w' B D (w1.heap.size + 1 + 1 + 1) (w1.heap.size + 1) (w1.heap.size + 1 + 1) (0 + fr) ⟨⟨sl, nm, fr, pg⟩, fr, fndM (S.lb 2) (fun _ => none) fr, fun _ => none⟩ S ∧ BelL (w1.heap.size + 1 + 1 + 1) (w1.heap.size + 1) (w1.heap.size + 1 + 1) B (newW w1 D ⟨sl, nm, fr, pg⟩) w' ∧ But (newW w1 D ⟨sl, nm, fr, pg⟩) w' (some (w1.heap.size + 1))) → e = Ending.returned (.int .i64 0) ∧ PL w' B D (w1.heap.size + 1 + 1 + 1) (w1.heap.size + 1) (w1.heap.size + 1 + 1) fr ⟨⟨sl, nm, fr, pg⟩, fr, fndM (S.lb 2) (fun _ => none) fr, fun _ => none⟩ S ∧ Below X.heap.size X w') := by
    rintro e w' ⟨h1, h2, -, h4⟩
    refine ⟨h1, by rw [Nat.zero_add] at h2; exact h2, ⟨h4.os.trans HW.out.os, h4.tape.trans HW.out.tape, h4.output.trans HW.out.output, Nat.le_trans HW.out.size h4.size, fun b hb => (h4.block b (Nat.lt_of_lt_of_le hb HW.out.size) (fun e => ?_)).trans (HW.out.block b hb)⟩⟩
    injection e with e
    have := HX1.out
    omega
  have HC : Hid (Calls Tryz.prog 47 #[(.pointer (some ⟨w1.heap.size + 1 + 1 + 1, 0, none⟩))] (newW w1 D ⟨sl, nm, fr, pg⟩) fun e w' => e = .returned (.int .i64 0) ∧ PL w' B D (w1.heap.size + 1 + 1 + 1) (w1.heap.size + 1) (w1.heap.size + 1 + 1) fr ⟨⟨sl, nm, fr, pg⟩, fr, fndM (S.lb 2) (fun _ => none) fr, fun _ => none⟩ S ∧ Below X.heap.size X w') :=
    (cfind (newW w1 D ⟨sl, nm, fr, pg⟩) B D (w1.heap.size + 1 + 1 + 1) (w1.heap.size + 1) (w1.heap.size + 1 + 1) 0 ⟨⟨sl, nm, fr, pg⟩, fr, fun _ => none, fun _ => none⟩ S HN.out (Nat.le_trans hB HW.out.size) (by show 0 + fr ≤ 900000; omega) HD.out hfit).mono HFD.out
  have HCC : Hid _ := hc
  simp only [cmV]
  clear hb1 HN HW HFD HX1 hn hfit hok hc hf2
  go_wp2_with fail
  refine HC.out.mono ?_
  rintro e w2 ⟨rfl, hp2, hb2⟩
  have HL2 : Hid _ := hp2
  have HB2 : Hid _ := hb2
  clear hp2 hb2 HC
  go_wp2
  go_ret2
  exact ⟨_, _, _, rfl, by unfold opnL; rw [← HCC.out]; exact HL2.out, HB2.out⟩
set_option maxRecDepth 20000 in
set_option maxHeartbeats 1000000 in
theorem copen_new (X : World) (B D k : Nat) (S S1 S2 S3 S4 : DS) (h : PDs X B D S) (hB : B ≤ X.heap.size) (ho : okS S k) (hk : k ≤ 800000) (hd : S.down = false) (hl : lastC (S.lb 2) = cm0) (pg : Nat) (hpg : pg = (S.lb 0).length / 1024) (hS : Beg S S1 S2 S3 S4 pg) :
    Calls Tryz.prog 7 #[(.pointer (some ⟨D, 0, none⟩))] X fun e w' => ∃ G bp bf, e = .returned (.tuple #[(.pointer (some ⟨G, 0, none⟩)), .int .i64 0]) ∧ PL w' B D G bp bf 0 ⟨⟨0, 1, 0, pg⟩, 0, fun _ => none, fun _ => none⟩ S4 ∧ BelT tyP B X w' := by
  have hlen := h.len 2 (by decide)
  have HP : Hid (PDs X B D S) := h
  have hmm := @run_makeMap Tryz.prog
  clear h
  go_enter Tryz.func7, Tryz.ntmps7
  go_wp2_with fail
  refine (clastC _ B D S HP.out hd hlen).mono ?_
  rintro e w1 ⟨rfl, hb1⟩
  rw [hl]
  have HN : Hid (PL (newW w1 D cm0) B D (w1.heap.size + 1 + 1 + 1) (w1.heap.size + 1) (w1.heap.size + 1 + 1) 0 ⟨cm0, 0, fun _ => none, fun _ => none⟩ S) := plNew w1 B D S cm0 (HP.out.below hb1) (Nat.le_trans hB hb1.size)
  have HW : Hid (Below X.heap.size X (newW w1 D cm0)) := keepBelow hb1 (newW_below _ _ _)
  have HX1 : Hid (X.heap.size ≤ w1.heap.size) := hb1.size
  have HC : Hid (Calls Tryz.prog 46 #[(.pointer (some ⟨w1.heap.size + 1 + 1 + 1, 0, none⟩))] (newW w1 D cm0) fun e w' => e = .returned (.int .i64 0) ∧ PL w' B D (w1.heap.size + 1 + 1 + 1) (w1.heap.size + 1) (w1.heap.size + 1 + 1) 0 ⟨⟨0, 1, 0, pg⟩, 0, fun _ => none, fun _ => none⟩ S4 ∧ BelT tyP B X w') := by
    refine (cbegin_ok (newW w1 D cm0) B D (w1.heap.size + 1 + 1 + 1) (w1.heap.size + 1) (w1.heap.size + 1 + 1) 0 k ⟨cm0, 0, fun _ => none, fun _ => none⟩ S S1 S2 S3 S4 HN.out (Nat.le_trans hB HW.out.size) ho hk hd pg hpg hS).mono ?_
    rintro e w' ⟨h1, h2, h3⟩
    have hx := HX1.out
    exact ⟨h1, h2, (HW.out.mono hB).trans h3.toBelow, fun b hb hf => (h3.far b (Nat.lt_of_lt_of_le hb HW.out.size) (hf.of (HW.out.block b hb)) (by omega) (by omega) (by omega)).trans (HW.out.block b hb)⟩
  clear hb1 HN HW HX1 hl hS ho hk hpg hd hlen
  simp only [cmV, cm0]
  go_wp2_with fail
  refine HC.out.mono ?_
  rintro e w2 ⟨rfl, hp2, hb2⟩
  have HL2 : Hid _ := hp2
  have HB2 : Hid _ := hb2
  clear hp2 hb2 HC
  go_wp2
  go_ret2
  exact ⟨_, _, _, rfl, HL2.out, HB2.out⟩
end Go.Proofs.YtfjkockcgddgbaaGreat
