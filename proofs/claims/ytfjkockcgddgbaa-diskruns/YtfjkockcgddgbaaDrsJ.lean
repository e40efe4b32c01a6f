/- relstorelaw.disks: Crash with nothing said -/
import Derived.Test.YtfjkockcgddgbaaDrsI
import Derived.Deep.RegionHeld3
namespace Go.Proofs.Ytfjkockcgddgbaa
open Go.RowKit Go.Lib
attribute [local go_sem ↓] Go.wp_at_zero Go.wp_at_succ
set_option maxRecDepth 20000 in
set_option maxHeartbeats 1000000 in
theorem lsame0 (a : Option Addr) (c : Nat) (w : World) :
    Calls Try.prog 37 #[.slice none 0 0, .slice a 0 c] w fun e w' => e = .returned (.bool true) ∧ Below w.heap.size w w' := by
  go_enter Try.func37, Try.ntmps37
  go_wp2_with fail
  go_loopw [13] (fun u w' => u = .int .i64 0 ∧ w' = w) (fun _ _ => 0)
  case atStart => exact ⟨rfl, rfl⟩
  case round =>
    obtain ⟨rfl, rfl⟩ := hrel
    go_wp2_with fail
    go_ret
    exact ⟨rfl, Below.refl _ _⟩
set_option maxRecDepth 20000 in
set_option maxHeartbeats 4000000 in
theorem ldisks7a (fi ai ni : Int) (s t : ByteArray) (cv : Value) (kc : Nat) (X : World) (B D R m : Nat) (hm : m ≤ 1000) (h : DR X B D R m) :
    Calls Try.prog 8 #[(.pointer (some ⟨D, 0, none⟩)), (.pointer (some ⟨R, 0, none⟩)), (.agg #[.int .i64 7, .int .i64 fi, .int .i64 ai, .int .i64 ni, .string s, .string t, .slice none 0 kc, cv])] X fun e w' => e = .returned (.bool true) ∧ DR w' B D R (m + 1) ∧ Below B X w' := by
  obtain ⟨vb, vw, lb, ws, left, count, down, l0, l1, vw', h⟩ := h
  have hB := h.low
  have hlen := h.len
  have hw : ws.length ≤ 1000000 := by omega
  have H0 : Hid (DRS (X.alloc (.cells #[.int .i64 7, .int .i64 fi, .int .i64 ai, .int .i64 ni, .string s, .string t, .slice none 0 kc, cv] 31)) B D R (m + 1) vb vw lb ws left count down l0 l1 vw') := (h.below ((Below.refl _ _).alloc (Nat.le_refl _) _)).mono (by omega)
  have HB0 : Hid (Below B X (X.alloc (.cells #[.int .i64 7, .int .i64 fi, .int .i64 ai, .int .i64 ni, .string s, .string t, .slice none 0 kc, cv] 31))) := (Below.refl _ _).alloc hB _
  clear h hlen
  go_enter Try.func8, Try.ntmps8
  go_wp2_with fail
  have ob4 : (X.alloc (.cells #[.int .i64 7, .int .i64 fi, .int .i64 ai, .int .i64 ni, .string s, .string t, .slice none 0 kc, cv] 31)).heap[X.heap.size]? = some (.cells #[.int .i64 7, .int .i64 fi, .int .i64 ai, .int .i64 ni, .string s, .string t, .slice none 0 kc, cv] 31) := heap_alloc_new X _
  have HO4 : Hid _ := ob4
  have hB4 : B ≤ (X.alloc (.cells #[.int .i64 7, .int .i64 fi, .int .i64 ai, .int .i64 ni, .string s, .string t, .slice none 0 kc, cv] 31)).heap.size := Nat.le_trans hB HB0.out.size
  clear ob4
  refine (ccrash none 0 0 (fun _ => 0) _ B D vb vw lb ws left count down H0.out.pd hB4 hw (by omega) (.inl rfl)).mono ?_
  rintro e w5 ⟨rfl, ⟨vb', hP⟩, hb5⟩
  have HP : Hid _ := hP
  have HR : Hid _ := H0.out.rd.belP hb5
  have hob5 := (hb5.far _ (ob_lt HO4.out) (far_blk (by decide) HO4.out)).trans HO4.out
  have b6' : w5.cell? ⟨X.heap.size, 6, none⟩ = some (.slice none 0 kc) := (obj_cell hob5 6).trans rfl
  have HO5 : Hid _ := hob5
  have HB5 : Hid (Below B X w5) := HB0.out.trans hb5.toBelow
  have hB5 : B ≤ w5.heap.size := Nat.le_trans hB HB5.out.size
  clear hP hb5 hob5
  go_wp2_with fail
  refine (rcrash _ 0 kc (fun _ => 0) w5 B R l0 l1 vw' ws (nrm left) count down HR.out hB5 hw (by omega) (.inl rfl) lb H0.out.e1 H0.out.e3).mono ?_
  rintro e w6 ⟨rfl, ⟨l0', l1', hR, g0, g1⟩, hb6⟩
  have H6 : Hid (DRS w6 B D R (m + 1) vb' (.slice none 0 0) (cpL (crL (fateI 0 (fun _ => 0)) ws lb ws.length) 2) [] (-1) count false l0' l1' (.slice none 0 0)) := DRS.crash (HP.out.belR hb6) hR g0 g1 H0.out.cnt
  have hob6 := (hb6.far _ (ob_lt HO5.out) (far_blk (by decide) HO5.out)).trans HO5.out
  have b6 : w6.cell? ⟨X.heap.size, 6, none⟩ = some (.slice none 0 kc) := (obj_cell hob6 6).trans rfl
  have HB6 : Hid (Below B X w6) := HB5.out.trans hb6.toBelow
  generalize cpL (crL (fateI 0 (fun _ => 0)) ws lb ws.length) 2 = lz at *
  clear hR g0 g1 hb6 hob6 b6' HP HR HO5 HO4 H0 HB0
  go_wp2_with fail
  refine (lsame0 _ kc w6).mono ?_
  rintro e W ⟨rfl, hb7⟩
  have H1 : Hid (DRS W B D R (m + 1) vb' (.slice none 0 0) lz [] (-1) count false l0' l1' (.slice none 0 0)) := H6.out.below hb7
  have HB1 : Hid (Below B X W) := HB6.out.trans (hb7.mono (Nat.le_trans hB HB6.out.size))
  obtain ⟨-, -, c2, -, c4, c5⟩ := H1.out.rd.cells
  clear hb7 b6 H6 HB6
  go_wp2_with fail
  have H1d : Hid (DRS W.drew B D R (m + 1) vb' (.slice none 0 0) lz [] (-1) count false l0' l1' (.slice none 0 0)) := H1.out.below (drew_below W 1)
  have HB1d : Hid (Below B X W.drew) := HB1.out.drew
  go_region_held3 (fun w' => Hid (DRS w' B D R (m + 1) vb' (.slice none 0 0) lz [] (-1) count false l0' l1' (.slice none 0 0)) ∧ Hid (Below B X w') ∧ w'.cell? ⟨R, 4, none⟩ = some (.bool false) ∧ w'.cell? ⟨R, 5, none⟩ = some (.int .i64 count) ∧ w'.cell? ⟨R, 2, none⟩ = some (.slice none 0 0)) (first | (and_intros <;> first | exact H1d | exact HB1d | assumption) | (go_split_ands; and_intros <;> assumption))
    (first | (go_at_call 20; refine (cdown _ B D vb' (.slice none 0 0) lz [] (-1) count false (Hid.out (by assumption : Hid (DRS _ B D R (m + 1) vb' (.slice none 0 0) lz [] (-1) count false l0' l1' (.slice none 0 0)))).pd).mono ?_; rintro e w' ⟨rfl, rfl⟩) | (go_at_call 38; refine (ccount _ B D vb' (.slice none 0 0) lz [] (-1) count false (Hid.out (by assumption : Hid (DRS _ B D R (m + 1) vb' (.slice none 0 0) lz [] (-1) count false l0' l1' (.slice none 0 0)))).pd).mono ?_; rintro e w' ⟨rfl, rfl⟩) | (go_at_call 39; refine (cwaits _ B D vb' (.slice none 0 0) lz [] (-1) count false (Hid.out (by assumption : Hid (DRS _ B D R (m + 1) vb' (.slice none 0 0) lz [] (-1) count false l0' l1' (.slice none 0 0)))).pd).mono ?_; rintro e w' ⟨rfl, rfl⟩))
  go_wp2
  go_ret
  go_split_ands
  exact ⟨rfl, ⟨_, _, _, _, _, _, _, _, _, _, Hid.out (by assumption)⟩, Hid.out (by assumption)⟩
set_option maxRecDepth 20000 in
set_option maxHeartbeats 4000000 in
theorem ldisks7b (fi ai ni : Int) (s t : ByteArray) (cv : Value) (ad : Addr) (kc : Nat) (X : World) (B D R m : Nat) (hm : m ≤ 1000) (h : DR X B D R m) :
    Calls Try.prog 8 #[(.pointer (some ⟨D, 0, none⟩)), (.pointer (some ⟨R, 0, none⟩)), (.agg #[.int .i64 7, .int .i64 fi, .int .i64 ai, .int .i64 ni, .string s, .string t, .slice (some ad) 0 kc, cv])] X fun e w' => e = .returned (.bool true) ∧ DR w' B D R (m + 1) ∧ Below B X w' := by
  obtain ⟨vb, vw, lb, ws, left, count, down, l0, l1, vw', h⟩ := h
  have hB := h.low
  have hlen := h.len
  have hw : ws.length ≤ 1000000 := by omega
  have H0 : Hid (DRS (X.alloc (.cells #[.int .i64 7, .int .i64 fi, .int .i64 ai, .int .i64 ni, .string s, .string t, .slice (some ad) 0 kc, cv] 31)) B D R (m + 1) vb vw lb ws left count down l0 l1 vw') := (h.below ((Below.refl _ _).alloc (Nat.le_refl _) _)).mono (by omega)
  have HB0 : Hid (Below B X (X.alloc (.cells #[.int .i64 7, .int .i64 fi, .int .i64 ai, .int .i64 ni, .string s, .string t, .slice (some ad) 0 kc, cv] 31))) := (Below.refl _ _).alloc hB _
  clear h hlen
  go_enter Try.func8, Try.ntmps8
  go_wp2_with fail
  have ob4 : (X.alloc (.cells #[.int .i64 7, .int .i64 fi, .int .i64 ai, .int .i64 ni, .string s, .string t, .slice (some ad) 0 kc, cv] 31)).heap[X.heap.size]? = some (.cells #[.int .i64 7, .int .i64 fi, .int .i64 ai, .int .i64 ni, .string s, .string t, .slice (some ad) 0 kc, cv] 31) := heap_alloc_new X _
  have HO4 : Hid _ := ob4
  have hB4 : B ≤ (X.alloc (.cells #[.int .i64 7, .int .i64 fi, .int .i64 ai, .int .i64 ni, .string s, .string t, .slice (some ad) 0 kc, cv] 31)).heap.size := Nat.le_trans hB HB0.out.size
  clear ob4
  refine (ccrash none 0 0 (fun _ => 0) _ B D vb vw lb ws left count down H0.out.pd hB4 hw (by omega) (.inl rfl)).mono ?_
  rintro e w5 ⟨rfl, ⟨vb', hP⟩, hb5⟩
  have HP : Hid _ := hP
  have HR : Hid _ := H0.out.rd.belP hb5
  have hob5 := (hb5.far _ (ob_lt HO4.out) (far_blk (by decide) HO4.out)).trans HO4.out
  have b6' : w5.cell? ⟨X.heap.size, 6, none⟩ = some (.slice (some ad) 0 kc) := (obj_cell hob5 6).trans rfl
  have HO5 : Hid _ := hob5
  have HB5 : Hid (Below B X w5) := HB0.out.trans hb5.toBelow
  have hB5 : B ≤ w5.heap.size := Nat.le_trans hB HB5.out.size
  clear hP hb5 hob5
  go_wp2_with fail
  refine (rcrash _ 0 kc (fun _ => 0) w5 B R l0 l1 vw' ws (nrm left) count down HR.out hB5 hw (by omega) (.inl rfl) lb H0.out.e1 H0.out.e3).mono ?_
  rintro e w6 ⟨rfl, ⟨l0', l1', hR, g0, g1⟩, hb6⟩
  have H6 : Hid (DRS w6 B D R (m + 1) vb' (.slice none 0 0) (cpL (crL (fateI 0 (fun _ => 0)) ws lb ws.length) 2) [] (-1) count false l0' l1' (.slice none 0 0)) := DRS.crash (HP.out.belR hb6) hR g0 g1 H0.out.cnt
  have hob6 := (hb6.far _ (ob_lt HO5.out) (far_blk (by decide) HO5.out)).trans HO5.out
  have b6 : w6.cell? ⟨X.heap.size, 6, none⟩ = some (.slice (some ad) 0 kc) := (obj_cell hob6 6).trans rfl
  have HB6 : Hid (Below B X w6) := HB5.out.trans hb6.toBelow
  generalize cpL (crL (fateI 0 (fun _ => 0)) ws lb ws.length) 2 = lz at *
  clear hR g0 g1 hb6 hob6 b6' HP HR HO5 HO4 H0 HB0
  go_wp2_with fail
  refine (lsame0 _ kc w6).mono ?_
  rintro e W ⟨rfl, hb7⟩
  have H1 : Hid (DRS W B D R (m + 1) vb' (.slice none 0 0) lz [] (-1) count false l0' l1' (.slice none 0 0)) := H6.out.below hb7
  have HB1 : Hid (Below B X W) := HB6.out.trans (hb7.mono (Nat.le_trans hB HB6.out.size))
  obtain ⟨-, -, c2, -, c4, c5⟩ := H1.out.rd.cells
  clear hb7 b6 H6 HB6
  go_wp2_with fail
  have H1d : Hid (DRS W.drew B D R (m + 1) vb' (.slice none 0 0) lz [] (-1) count false l0' l1' (.slice none 0 0)) := H1.out.below (drew_below W 1)
  have HB1d : Hid (Below B X W.drew) := HB1.out.drew
  go_region_held3 (fun w' => Hid (DRS w' B D R (m + 1) vb' (.slice none 0 0) lz [] (-1) count false l0' l1' (.slice none 0 0)) ∧ Hid (Below B X w') ∧ w'.cell? ⟨R, 4, none⟩ = some (.bool false) ∧ w'.cell? ⟨R, 5, none⟩ = some (.int .i64 count) ∧ w'.cell? ⟨R, 2, none⟩ = some (.slice none 0 0)) (first | (and_intros <;> first | exact H1d | exact HB1d | assumption) | (go_split_ands; and_intros <;> assumption))
    (first | (go_at_call 20; refine (cdown _ B D vb' (.slice none 0 0) lz [] (-1) count false (Hid.out (by assumption : Hid (DRS _ B D R (m + 1) vb' (.slice none 0 0) lz [] (-1) count false l0' l1' (.slice none 0 0)))).pd).mono ?_; rintro e w' ⟨rfl, rfl⟩) | (go_at_call 38; refine (ccount _ B D vb' (.slice none 0 0) lz [] (-1) count false (Hid.out (by assumption : Hid (DRS _ B D R (m + 1) vb' (.slice none 0 0) lz [] (-1) count false l0' l1' (.slice none 0 0)))).pd).mono ?_; rintro e w' ⟨rfl, rfl⟩) | (go_at_call 39; refine (cwaits _ B D vb' (.slice none 0 0) lz [] (-1) count false (Hid.out (by assumption : Hid (DRS _ B D R (m + 1) vb' (.slice none 0 0) lz [] (-1) count false l0' l1' (.slice none 0 0)))).pd).mono ?_; rintro e w' ⟨rfl, rfl⟩))
  go_wp2
  go_ret
  go_split_ands
  exact ⟨rfl, ⟨_, _, _, _, _, _, _, _, _, _, Hid.out (by assumption)⟩, Hid.out (by assumption)⟩
end Go.Proofs.Ytfjkockcgddgbaa
