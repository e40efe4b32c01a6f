/- package wal: begin -/
import Derived.Test.YtfjkockcgddgbaaGreatWal8
namespace Go.Proofs.YtfjkockcgddgbaaGreat
open Go.RowKit Go.Lib
attribute [local go_sem ↓] Go.wp_at_zero Go.wp_at_succ
theorem belowT {B : Nat} {X Y : World} {T : TypeId → Bool} (h : Below X.heap.size X Y) (hB : B ≤ X.heap.size) : BelT T B X Y := ⟨h.mono hB, fun b hb _ => h.block b hb⟩
set_option maxHeartbeats 1000000 in
theorem cb1 (X : World) (B D G bp bf m k b : Nat) (L : LS) (S : DS) (h : PL X B D G bp bf m L S) (hb : X.cell? ⟨b, 0, none⟩ = some (.pointer (some ⟨G, 0, none⟩))) (hB : B ≤ X.heap.size) (ho : okS S k) (hk : k ≤ 900000) (r : Int) (S1 : DS) (h1 : opD S 1 0 ⟨#[]⟩ true = (r, S1)) :
    Calls Tryz.prog 86 #[(.pointer (some ⟨b, 0, none⟩))] X fun e w' => e = .returned (.int .i64 r) ∧ PL w' B D G bp bf m L S1 ∧ BelT tyP B X w' := by
  obtain ⟨c0, c1, c2, c3, c4, c5, c6, c7⟩ := h.cells
  have HP : Hid (PL X B D G bp bf m L S) := h
  have HB0 : Hid (B ≤ X.heap.size) := hB
  have HO : Hid (okS S k ∧ k ≤ 1000000) := (⟨ho, by omega⟩ : okS S k ∧ k ≤ 1000000)
  have H1 : Hid _ := h1
  clear h hB ho hk h1 c1 c2 c3 c4 c5 c6 c7
  go_enter Tryz.func86, Tryz.ntmps86
  go_wp2_with fail
  refine (ccutD 1 0 _ B D S k HP.out.dsk HB0.out HO.out.1 HO.out.2).mono ?_
  rw [H1.out]
  rintro e w1 ⟨rfl, hp1, hb1⟩
  go_wp2
  go_ret
  exact ⟨rfl, HP.out.disk hb1 hp1, hb1⟩
set_option maxHeartbeats 1000000 in
theorem cb2 (X : World) (B D G bp bf m k b : Nat) (L : LS) (S : DS) (h : PL X B D G bp bf m L S) (hb : X.cell? ⟨b, 0, none⟩ = some (.pointer (some ⟨G, 0, none⟩))) (hB : B ≤ X.heap.size) (ho : okS S k) (hk : k ≤ 900000) (r : Int) (S1 : DS) (h1 : synD S 1 = (r, S1)) :
    Calls Tryz.prog 88 #[(.pointer (some ⟨b, 0, none⟩))] X fun e w' => e = .returned (.int .i64 r) ∧ PL w' B D G bp bf m L S1 ∧ BelT tyP B X w' := by
  obtain ⟨c0, c1, c2, c3, c4, c5, c6, c7⟩ := h.cells
  have HP : Hid (PL X B D G bp bf m L S) := h
  have HB0 : Hid (B ≤ X.heap.size) := hB
  have HO : Hid (okS S k ∧ k ≤ 1000000) := (⟨ho, by omega⟩ : okS S k ∧ k ≤ 1000000)
  have H1 : Hid _ := h1
  clear h hB ho hk h1 c1 c2 c3 c4 c5 c6 c7
  go_enter Tryz.func88, Tryz.ntmps88
  go_wp2_with fail
  refine (csyncD 1 _ B D S k HP.out.dsk HB0.out HO.out.1 HO.out.2).mono ?_
  rw [H1.out]
  rintro e w1 ⟨rfl, hp1, hb1⟩
  go_wp2
  go_ret
  exact ⟨rfl, HP.out.disk hb1 hp1, hb1⟩
set_option maxHeartbeats 1000000 in
theorem cb4 (X : World) (B D G bp bf m k b : Nat) (L : LS) (S : DS) (h : PL X B D G bp bf m L S) (hb : X.cell? ⟨b, 0, none⟩ = some (.pointer (some ⟨G, 0, none⟩))) (hB : B ≤ X.heap.size) (ho : okS S k) (hk : k ≤ 900000) (r : Int) (S1 : DS) (h1 : synD S 1 = (r, S1)) :
    Calls Tryz.prog 91 #[(.pointer (some ⟨b, 0, none⟩))] X fun e w' => e = .returned (.int .i64 r) ∧ PL w' B D G bp bf m L S1 ∧ BelT tyP B X w' := by
  obtain ⟨c0, c1, c2, c3, c4, c5, c6, c7⟩ := h.cells
  have HP : Hid (PL X B D G bp bf m L S) := h
  have HB0 : Hid (B ≤ X.heap.size) := hB
  have HO : Hid (okS S k ∧ k ≤ 1000000) := (⟨ho, by omega⟩ : okS S k ∧ k ≤ 1000000)
  have H1 : Hid _ := h1
  clear h hB ho hk h1 c1 c2 c3 c4 c5 c6 c7
  go_enter Tryz.func91, Tryz.ntmps91
  go_wp2_with fail
  refine (csyncD 1 _ B D S k HP.out.dsk HB0.out HO.out.1 HO.out.2).mono ?_
  rw [H1.out]
  rintro e w1 ⟨rfl, hp1, hb1⟩
  go_wp2
  go_ret
  exact ⟨rfl, HP.out.disk hb1 hp1, hb1⟩
set_option maxRecDepth 20000 in
set_option maxHeartbeats 1000000 in
theorem cb3 (X : World) (B D G bp bf m k b : Nat) (L : LS) (S : DS) (h : PL X B D G bp bf m L S) (hb : X.cell? ⟨b, 0, none⟩ = some (.pointer (some ⟨G, 0, none⟩))) (hbl : b < X.heap.size) (hB : B ≤ X.heap.size) (ho : okS S k) (hk : k ≤ 900000) (r : Int) (S1 : DS) (h1 : opD S 1 0 (markB ++ txtB L.last.number L.last.frames L.last.pages) false = (r, S1)) :
    Calls Tryz.prog 89 #[(.pointer (some ⟨b, 0, none⟩))] X fun e w' => e = .returned (.int .i64 r) ∧ PL w' B D G bp bf m L S1 ∧ BelT tyP B X w' := by
  obtain ⟨c0, c1, c2, c3, c4, c5, c6, c7⟩ := h.cells
  have hG := h.lt
  have HP : Hid (PL X B D G bp bf m L S) := h
  have HB0 : Hid (B ≤ X.heap.size) := hB
  have HO : Hid (okS S k ∧ k ≤ 1000000) := (⟨ho, by omega⟩ : okS S k ∧ k ≤ 1000000)
  have h1' : opD S 1 0 ((⟨#[114, 101, 108, 115, 116, 111, 114, 101, 32, 108, 111, 103, 32, 48, 48, 49]⟩ : ByteArray) ++ txtB L.last.number L.last.frames L.last.pages) false = (r, S1) := h1
  have H1 : Hid _ := h1'
  have ts := txtB_size L.last.number L.last.frames L.last.pages
  clear h hB ho hk h1 h1' c5 c6 c7
  go_enter Tryz.func89, Tryz.ntmps89
  go_wp2_with fail
  go_region_with (first | (go_at_call 90; refine (ctext L.last.slot L.last.number L.last.frames L.last.pages _).mono ?_; rintro e w4 ⟨rfl, hb4⟩; have HX4 : Hid (Below X.heap.size X w4) := undrewB hb4; obtain ⟨hc4, hf4⟩ := bcell HX4.out; clear hb4) | (go_at_call 58; refine (cwriteD 1 0 _ _ B D S k (HP.out.dsk.below HX4.out) (Nat.le_trans HB0.out HX4.out.size) HO.out.1 HO.out.2).mono ?_; rw [H1.out]; rintro e w5 ⟨rfl, hp5, hb5⟩))
  all_goals
    have HL5 : Hid (PL w5 B D G bp bf m L S1) := (HP.out.below HX4.out).disk hb5 hp5
    have HF5 : Hid (BelT tyP B X w5) := (belowT HX4.out HB0.out).trans hb5
    clear hp5 hb5 HX4 hc4 hf4
    go_wp2
    go_ret
    exact ⟨rfl, HL5.out, HF5.out⟩
theorem wcell1 {W : World} {b : Nat} {v : Value} {t : TypeId} (h : W.heap[b]? = some (.cells #[v] t (0, 0))) : W.cell? ⟨b, 0, none⟩ = some v := by simp [World.cell?, h]
theorem plSet4 {X : World} {B D G bp bf n : Nat} {L : LS} {S : DS} (h : PL X B D G bp bf n L S) (c : Cm) : PL ((((X.setCell ⟨G, 1, none⟩ (.int .i64 c.slot)).setCell ⟨G, 2, none⟩ (.int .i64 c.number)).setCell ⟨G, 3, none⟩ (.int .i64 c.frames)).setCell ⟨G, 4, none⟩ (.int .i64 c.pages)) B D G bp bf n { L with last := c } S := by
  have h1 : PL (X.setCell ⟨G, 1, none⟩ (.int .i64 c.slot)) B D G bp bf n { L with last := ⟨c.slot, L.last.number, L.last.frames, L.last.pages⟩ } S := h.own rfl rfl rfl
  have h2 : PL ((X.setCell ⟨G, 1, none⟩ (.int .i64 c.slot)).setCell ⟨G, 2, none⟩ (.int .i64 c.number)) B D G bp bf n { L with last := ⟨c.slot, c.number, L.last.frames, L.last.pages⟩ } S := h1.own rfl rfl rfl
  have h3 : PL (((X.setCell ⟨G, 1, none⟩ (.int .i64 c.slot)).setCell ⟨G, 2, none⟩ (.int .i64 c.number)).setCell ⟨G, 3, none⟩ (.int .i64 c.frames)) B D G bp bf n { L with last := ⟨c.slot, c.number, c.frames, L.last.pages⟩ } S := h2.own rfl rfl rfl
  exact h3.own rfl rfl rfl
/- what begin asks of the disk, and leaves -/
structure Beg (S S1 S2 S3 S4 : DS) (pg : Nat) : Prop where
  a : opD S 1 0 ⟨#[]⟩ true = (0, S1)
  b : synD S1 1 = (0, S2)
  c : opD S2 1 0 (markB ++ txtB 1 0 pg) false = (0, S3)
  d : synD S3 1 = (0, S4)
set_option maxRecDepth 20000 in
set_option maxHeartbeats 2000000 in
theorem cbegin_ok (X : World) (B D G bp bf m k : Nat) (L : LS) (S S1 S2 S3 S4 : DS) (h : PL X B D G bp bf m L S) (hB : B ≤ X.heap.size) (ho : okS S k) (hk : k ≤ 800000) (hd : S.down = false) (pg : Nat) (hpg : pg = (S.lb 0).length / 1024) (hS : Beg S S1 S2 S3 S4 pg) :
    Calls Tryz.prog 46 #[(.pointer (some ⟨G, 0, none⟩))] X fun e w' => e = .returned (.int .i64 0) ∧ PL w' B D G bp bf m { L with last := ⟨0, 1, 0, pg⟩ } S4 ∧ BelL G bp bf B X w' := by
  have hlen := h.dsk.len 0 (by decide)
  obtain ⟨c0, c1, c2, c3, c4, c5, c6, c7⟩ := h.cells
  have ea : askE 0 0 0 S.down = 0 := by rw [hd]; rfl
  have es : sizV 0 S.lb S.down = ((S.lb 0).length : Int) := by unfold sizV; rw [if_pos ea]; rfl
  have EA : Hid _ := ea
  have ES : Hid _ := es
  have hG := h.lt
  have f1 := h.unfrozen 1
  have f2 := h.unfrozen 2
  have f3 := h.unfrozen 3
  have f4 := h.unfrozen 4
  have HP : Hid (PL X B D G bp bf m L S) := h
  have HB0 : Hid (B ≤ X.heap.size) := hB
  have HS : Hid (Beg S S1 S2 S3 S4 pg) := hS
  clear ea es h hS
  go_enter Tryz.func46, Tryz.ntmps46
  go_wp2_with fail
  refine (csizeD 0 _ B D S (HP.out.dsk.below ((Below.refl _ _).alloc (Nat.le_refl _) _))).mono ?_
  rintro e w1 ⟨rfl, hw⟩; rw [hw]; clear hw
  rw [EA.out, ES.out]
  go_wp2_with fail
  have e8 : ((S.lb 0).length : Int) / 1024 = (pg : Int) := by rw [hpg]; omega
  rw [e8]
  have HL0 : Hid (PL ((((((X.setCell ⟨G, 1, none⟩ (.int .i64 0)).setCell ⟨G, 2, none⟩ (.int .i64 1)).setCell ⟨G, 3, none⟩ (.int .i64 0)).setCell ⟨G, 4, none⟩ (.int .i64 pg)).alloc (.cells #[(.pointer (some ⟨G, 0, none⟩))] 27)).alloc (.cells #[.func (Fn.func 86) #[] #[(.pointer (some ⟨X.heap.size, 0, none⟩))], .func (Fn.func 88) #[] #[(.pointer (some ⟨X.heap.size, 0, none⟩))], .func (Fn.func 89) #[] #[(.pointer (some ⟨X.heap.size, 0, none⟩))], .func (Fn.func 91) #[] #[(.pointer (some ⟨X.heap.size, 0, none⟩))]] 49)) B D G bp bf m { L with last := ⟨0, 1, 0, pg⟩ } S) := (plSet4 HP.out ⟨0, 1, 0, pg⟩).below (((Below.refl _ _).alloc (Nat.le_refl _) _).alloc (by simp) _)
  have HF0 : Hid (BelL G bp bf B X ((((((X.setCell ⟨G, 1, none⟩ (.int .i64 0)).setCell ⟨G, 2, none⟩ (.int .i64 1)).setCell ⟨G, 3, none⟩ (.int .i64 0)).setCell ⟨G, 4, none⟩ (.int .i64 pg)).alloc (.cells #[(.pointer (some ⟨G, 0, none⟩))] 27)).alloc (.cells #[.func (Fn.func 86) #[] #[(.pointer (some ⟨X.heap.size, 0, none⟩))], .func (Fn.func 88) #[] #[(.pointer (some ⟨X.heap.size, 0, none⟩))], .func (Fn.func 89) #[] #[(.pointer (some ⟨X.heap.size, 0, none⟩))], .func (Fn.func 91) #[] #[(.pointer (some ⟨X.heap.size, 0, none⟩))]] 49))) := (grown_log (((((But.refl X (some G)).set 1 _).set 2 _).set 3 _).set 4 _) HB0.out (.inl rfl) HP.out.low.1).trans (below_log (((Below.refl _ _).alloc (Nat.le_refl _) _).alloc (by simp) _) (by simpa using HB0.out) G bp bf)
  have hs4 : ((((X.setCell ⟨G, 1, none⟩ (.int .i64 0)).setCell ⟨G, 2, none⟩ (.int .i64 1)).setCell ⟨G, 3, none⟩ (.int .i64 0)).setCell ⟨G, 4, none⟩ (.int .i64 pg)).heap.size = X.heap.size := by simp
  have BX0 : Hid (((((((X.setCell ⟨G, 1, none⟩ (.int .i64 0)).setCell ⟨G, 2, none⟩ (.int .i64 1)).setCell ⟨G, 3, none⟩ (.int .i64 0)).setCell ⟨G, 4, none⟩ (.int .i64 pg)).alloc (.cells #[(.pointer (some ⟨G, 0, none⟩))] 27)).alloc (.cells #[.func (Fn.func 86) #[] #[(.pointer (some ⟨X.heap.size, 0, none⟩))], .func (Fn.func 88) #[] #[(.pointer (some ⟨X.heap.size, 0, none⟩))], .func (Fn.func 89) #[] #[(.pointer (some ⟨X.heap.size, 0, none⟩))], .func (Fn.func 91) #[] #[(.pointer (some ⟨X.heap.size, 0, none⟩))]] 49)).heap[X.heap.size]? = some (.cells #[(.pointer (some ⟨G, 0, none⟩))] 27 (0, 0))) := by
    have := (heap_alloc_old (((((X.setCell ⟨G, 1, none⟩ (.int .i64 0)).setCell ⟨G, 2, none⟩ (.int .i64 1)).setCell ⟨G, 3, none⟩ (.int .i64 0)).setCell ⟨G, 4, none⟩ (.int .i64 pg)).alloc (.cells #[(.pointer (some ⟨G, 0, none⟩))] 27)) (.cells #[.func (Fn.func 86) #[] #[(.pointer (some ⟨X.heap.size, 0, none⟩))], .func (Fn.func 88) #[] #[(.pointer (some ⟨X.heap.size, 0, none⟩))], .func (Fn.func 89) #[] #[(.pointer (some ⟨X.heap.size, 0, none⟩))], .func (Fn.func 91) #[] #[(.pointer (some ⟨X.heap.size, 0, none⟩))]] 49) (by simp)).trans (heap_alloc_new ((((X.setCell ⟨G, 1, none⟩ (.int .i64 0)).setCell ⟨G, 2, none⟩ (.int .i64 1)).setCell ⟨G, 3, none⟩ (.int .i64 0)).setCell ⟨G, 4, none⟩ (.int .i64 pg)) (.cells #[(.pointer (some ⟨G, 0, none⟩))] 27))
    rw [hs4] at this
    exact this
  have FX0 : Hid (((((((X.setCell ⟨G, 1, none⟩ (.int .i64 0)).setCell ⟨G, 2, none⟩ (.int .i64 1)).setCell ⟨G, 3, none⟩ (.int .i64 0)).setCell ⟨G, 4, none⟩ (.int .i64 pg)).alloc (.cells #[(.pointer (some ⟨G, 0, none⟩))] 27)).alloc (.cells #[.func (Fn.func 86) #[] #[(.pointer (some ⟨X.heap.size, 0, none⟩))], .func (Fn.func 88) #[] #[(.pointer (some ⟨X.heap.size, 0, none⟩))], .func (Fn.func 89) #[] #[(.pointer (some ⟨X.heap.size, 0, none⟩))], .func (Fn.func 91) #[] #[(.pointer (some ⟨X.heap.size, 0, none⟩))]] 49)).heap[X.heap.size + 1]? = some (.cells #[.func (Fn.func 86) #[] #[(.pointer (some ⟨X.heap.size, 0, none⟩))], .func (Fn.func 88) #[] #[(.pointer (some ⟨X.heap.size, 0, none⟩))], .func (Fn.func 89) #[] #[(.pointer (some ⟨X.heap.size, 0, none⟩))], .func (Fn.func 91) #[] #[(.pointer (some ⟨X.heap.size, 0, none⟩))]] 49 (0, 0))) := by
    have := heap_alloc_new (((((X.setCell ⟨G, 1, none⟩ (.int .i64 0)).setCell ⟨G, 2, none⟩ (.int .i64 1)).setCell ⟨G, 3, none⟩ (.int .i64 0)).setCell ⟨G, 4, none⟩ (.int .i64 pg)).alloc (.cells #[(.pointer (some ⟨G, 0, none⟩))] 27)) (.cells #[.func (Fn.func 86) #[] #[(.pointer (some ⟨X.heap.size, 0, none⟩))], .func (Fn.func 88) #[] #[(.pointer (some ⟨X.heap.size, 0, none⟩))], .func (Fn.func 89) #[] #[(.pointer (some ⟨X.heap.size, 0, none⟩))], .func (Fn.func 91) #[] #[(.pointer (some ⟨X.heap.size, 0, none⟩))]] 49)
    rw [show (((((X.setCell ⟨G, 1, none⟩ (.int .i64 0)).setCell ⟨G, 2, none⟩ (.int .i64 1)).setCell ⟨G, 3, none⟩ (.int .i64 0)).setCell ⟨G, 4, none⟩ (.int .i64 pg)).alloc (.cells #[(.pointer (some ⟨G, 0, none⟩))] 27)).heap.size = X.heap.size + 1 by simp] at this
    exact this
  have O0 : Hid (okS S (k + 0)) := ho
  have O1 : Hid (okS S1 (k + 1)) := by have := opD_ok ho 1 0 ⟨#[]⟩ true; rw [HS.out.a] at this; exact this
  have O2 : Hid (okS S2 (k + 2)) := by have := synD_ok O1.out 1; rw [HS.out.b] at this; exact this
  have O3 : Hid (okS S3 (k + 3)) := by have := opD_ok O2.out 1 0 (markB ++ txtB 1 0 pg) false; rw [HS.out.c] at this; exact this
  have HK0 : Hid (k + 0 ≤ 900000) := (by omega : k + 0 ≤ 900000)
  have HK1 : Hid (k + 1 ≤ 900000) := (by omega : k + 1 ≤ 900000)
  have HK2 : Hid (k + 2 ≤ 900000) := (by omega : k + 2 ≤ 900000)
  have HK3 : Hid (k + 3 ≤ 900000) := (by omega : k + 3 ≤ 900000)
  clear hs4 e8 ho hk hB c0 c1 c2 c3 c4 c5 c6 c7 f1 f2 f3 f4 hG
  generalize ((((((X.setCell ⟨G, 1, none⟩ (.int .i64 0)).setCell ⟨G, 2, none⟩ (.int .i64 1)).setCell ⟨G, 3, none⟩ (.int .i64 0)).setCell ⟨G, 4, none⟩ (.int .i64 pg)).alloc (.cells #[(.pointer (some ⟨G, 0, none⟩))] 27)).alloc (.cells #[.func (Fn.func 86) #[] #[(.pointer (some ⟨X.heap.size, 0, none⟩))], .func (Fn.func 88) #[] #[(.pointer (some ⟨X.heap.size, 0, none⟩))], .func (Fn.func 89) #[] #[(.pointer (some ⟨X.heap.size, 0, none⟩))], .func (Fn.func 91) #[] #[(.pointer (some ⟨X.heap.size, 0, none⟩))]] 49)) = w0 at *
  have b0 := wcell1 BX0.out
  obtain ⟨⟨q0, q1, q2, q3⟩, -, -⟩ := wcell4 FX0.out
  refine wp_loop_rounds 5 ?_
  rw [rounds_succ]
  go_wp2_with fail
  refine (cb1 w0 B D G bp bf m (k + 0) X.heap.size _ S HL0.out b0 (Nat.le_trans HB0.out HF0.out.size) O0.out HK0.out 0 S1 HS.out.a).mono ?_
  rintro e w1 ⟨rfl, hp, hb⟩
  have HL1 : Hid _ := hp
  have HF1 : Hid (BelL G bp bf B X w1) := HF0.out.trans (hb.log G bp bf)
  have BX1 : Hid (w1.heap[X.heap.size]? = some (.cells #[(.pointer (some ⟨G, 0, none⟩))] 27 (0, 0))) := (hb.far _ (Array.getElem?_eq_some_iff.1 BX0.out).1 (far_of BX0.out (by decide))).trans BX0.out
  have FX1 : Hid (w1.heap[X.heap.size + 1]? = some (.cells #[.func (Fn.func 86) #[] #[(.pointer (some ⟨X.heap.size, 0, none⟩))], .func (Fn.func 88) #[] #[(.pointer (some ⟨X.heap.size, 0, none⟩))], .func (Fn.func 89) #[] #[(.pointer (some ⟨X.heap.size, 0, none⟩))], .func (Fn.func 91) #[] #[(.pointer (some ⟨X.heap.size, 0, none⟩))]] 49 (0, 0))) := (hb.far _ (Array.getElem?_eq_some_iff.1 FX0.out).1 (far_of FX0.out (by decide))).trans FX0.out
  clear hp hb b0 q0 q1 q2 q3
  have b1 := wcell1 BX1.out
  obtain ⟨⟨q0, q1, q2, q3⟩, -, -⟩ := wcell4 FX1.out
  go_wp2_with fail
  rw [rounds_succ]
  go_wp2_with fail
  refine (cb2 w1 B D G bp bf m (k + 1) X.heap.size _ S1 HL1.out b1 (Nat.le_trans HB0.out HF1.out.size) O1.out HK1.out 0 S2 HS.out.b).mono ?_
  rintro e w2 ⟨rfl, hp, hb⟩
  have HL2 : Hid _ := hp
  have HF2 : Hid (BelL G bp bf B X w2) := HF1.out.trans (hb.log G bp bf)
  have BX2 : Hid (w2.heap[X.heap.size]? = some (.cells #[(.pointer (some ⟨G, 0, none⟩))] 27 (0, 0))) := (hb.far _ (Array.getElem?_eq_some_iff.1 BX1.out).1 (far_of BX1.out (by decide))).trans BX1.out
  have FX2 : Hid (w2.heap[X.heap.size + 1]? = some (.cells #[.func (Fn.func 86) #[] #[(.pointer (some ⟨X.heap.size, 0, none⟩))], .func (Fn.func 88) #[] #[(.pointer (some ⟨X.heap.size, 0, none⟩))], .func (Fn.func 89) #[] #[(.pointer (some ⟨X.heap.size, 0, none⟩))], .func (Fn.func 91) #[] #[(.pointer (some ⟨X.heap.size, 0, none⟩))]] 49 (0, 0))) := (hb.far _ (Array.getElem?_eq_some_iff.1 FX1.out).1 (far_of FX1.out (by decide))).trans FX1.out
  clear hp hb b1 q0 q1 q2 q3
  have b2 := wcell1 BX2.out
  obtain ⟨⟨q0, q1, q2, q3⟩, -, -⟩ := wcell4 FX2.out
  go_wp2_with fail
  rw [rounds_succ]
  go_wp2_with fail
  refine (cb3 w2 B D G bp bf m (k + 2) X.heap.size _ S2 HL2.out b2 (Array.getElem?_eq_some_iff.1 BX2.out).1 (Nat.le_trans HB0.out HF2.out.size) O2.out HK2.out 0 S3 HS.out.c).mono ?_
  rintro e w3 ⟨rfl, hp, hb⟩
  have HL3 : Hid _ := hp
  have HF3 : Hid (BelL G bp bf B X w3) := HF2.out.trans (hb.log G bp bf)
  have BX3 : Hid (w3.heap[X.heap.size]? = some (.cells #[(.pointer (some ⟨G, 0, none⟩))] 27 (0, 0))) := (hb.far _ (Array.getElem?_eq_some_iff.1 BX2.out).1 (far_of BX2.out (by decide))).trans BX2.out
  have FX3 : Hid (w3.heap[X.heap.size + 1]? = some (.cells #[.func (Fn.func 86) #[] #[(.pointer (some ⟨X.heap.size, 0, none⟩))], .func (Fn.func 88) #[] #[(.pointer (some ⟨X.heap.size, 0, none⟩))], .func (Fn.func 89) #[] #[(.pointer (some ⟨X.heap.size, 0, none⟩))], .func (Fn.func 91) #[] #[(.pointer (some ⟨X.heap.size, 0, none⟩))]] 49 (0, 0))) := (hb.far _ (Array.getElem?_eq_some_iff.1 FX2.out).1 (far_of FX2.out (by decide))).trans FX2.out
  clear hp hb b2 q0 q1 q2 q3
  have b3 := wcell1 BX3.out
  obtain ⟨⟨q0, q1, q2, q3⟩, -, -⟩ := wcell4 FX3.out
  go_wp2_with fail
  rw [rounds_succ]
  go_wp2_with fail
  refine (cb4 w3 B D G bp bf m (k + 3) X.heap.size _ S3 HL3.out b3 (Nat.le_trans HB0.out HF3.out.size) O3.out HK3.out 0 S4 HS.out.d).mono ?_
  rintro e w4 ⟨rfl, hp, hb⟩
  have HL4 : Hid _ := hp
  have HF4 : Hid (BelL G bp bf B X w4) := HF3.out.trans (hb.log G bp bf)
  have BX4 : Hid (w4.heap[X.heap.size]? = some (.cells #[(.pointer (some ⟨G, 0, none⟩))] 27 (0, 0))) := (hb.far _ (Array.getElem?_eq_some_iff.1 BX3.out).1 (far_of BX3.out (by decide))).trans BX3.out
  have FX4 : Hid (w4.heap[X.heap.size + 1]? = some (.cells #[.func (Fn.func 86) #[] #[(.pointer (some ⟨X.heap.size, 0, none⟩))], .func (Fn.func 88) #[] #[(.pointer (some ⟨X.heap.size, 0, none⟩))], .func (Fn.func 89) #[] #[(.pointer (some ⟨X.heap.size, 0, none⟩))], .func (Fn.func 91) #[] #[(.pointer (some ⟨X.heap.size, 0, none⟩))]] 49 (0, 0))) := (hb.far _ (Array.getElem?_eq_some_iff.1 FX3.out).1 (far_of FX3.out (by decide))).trans FX3.out
  clear hp hb b3 q0 q1 q2 q3
  have b4 := wcell1 BX4.out
  obtain ⟨⟨q0, q1, q2, q3⟩, -, -⟩ := wcell4 FX4.out
  go_wp2_with fail
  rw [rounds_succ]
  go_wp2
  go_ret
  exact ⟨rfl, HL4.out, HF4.out⟩
end Go.Proofs.YtfjkockcgddgbaaGreat
