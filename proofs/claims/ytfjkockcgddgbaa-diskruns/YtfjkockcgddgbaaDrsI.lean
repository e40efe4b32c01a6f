/- relstorelaw.disks: Crash -/
import Derived.Test.YtfjkockcgddgbaaDrsH
import Derived.Deep.RegionHeld3
namespace Go.Proofs.Ytfjkockcgddgbaa
open Go.RowKit Go.Lib
attribute [local go_sem ↓] Go.wp_at_zero Go.wp_at_succ
theorem infoIntD : (Try.prog.info? 3).map (fun i => (i.zero, i.size, i.bytes)) = some (some (.int .i64 0), 1, 8) := by kernel_rfl
def intsC (f : Nat → Int) (n : Nat) : List Value := (List.range n).map fun j => .int .i64 (f j)
theorem intsC_len (f : Nat → Int) (n : Nat) : (intsC f n).length = n := by simp [intsC]
theorem intsC_get (f : Nat → Int) {n j : Nat} (h : j < n) : (intsC f n)[j]? = some (.int .i64 (f j)) := by simp [intsC, h]
theorem but_none {w X : World} (h : w.grownBy X none) : Below w.heap.size w X := ⟨h.os, h.tape, h.output, h.size, fun k hk => h.block k hk (fun e => by cases e)⟩
theorem cp_last (l : Nat → List UInt8) : cpL l 2 1 = l 1 ∧ cpL l 2 3 = l 3 ∧ cpL l 2 0 = l 1 ∧ cpL l 2 2 = l 3 := ⟨rfl, rfl, rfl, rfl⟩
theorem DRS.crash {W : World} {B D R m : Nat} {vb' : Nat → Value} {l : Nat → List UInt8} {count : Int} {l0' l1' : ByteArray} (hP : PD W B D vb' (.slice none 0 0) (cpL l 2) [] (-1) count false) (hR : RD W B R l0' l1' (.slice none 0 0) [] (-1) count false) (g0 : ll l0' = l 1) (g1 : ll l1' = l 3) (cnt : 0 ≤ count ∧ count ≤ (m : Int)) :
    DRS W B D R m vb' (.slice none 0 0) (cpL l 2) [] (-1) count false l0' l1' (.slice none 0 0) :=
  ⟨hP, hR, by rw [g0]; rfl, by rw [g1]; rfl, ⟨by rw [g0]; rfl, by rw [g1]; rfl⟩, Nat.zero_le _, cnt, by omega⟩
theorem obj_cell {w : World} {b : Nat} {cur : Array Value} {e : TypeId} {fz : Nat × Nat} (h : w.heap[b]? = some (.cells cur e fz)) (k : Nat) : w.cell? ⟨b, k, none⟩ = cur[k]? := by simp [World.cell?, h]
set_option maxRecDepth 20000 in
set_option maxHeartbeats 4000000 in
theorem ldisks7n (fi ai ni : Int) (s t : ByteArray) (cv : Value) (b off kn kc : Nat) (fk : Nat → Int) (X : World) (B D R m : Nat) (hm : m ≤ 1000) (hk0 : 0 < kn) (hkn : kn * 8 ≤ 140737488351232) (hb : b < B) (hk : ∀ j, j < kn → X.cell? ⟨b, off + j, none⟩ = some (.int .i64 (fk j))) (h : DR X B D R m) :
    Calls Try.prog 8 #[(.pointer (some ⟨D, 0, none⟩)), (.pointer (some ⟨R, 0, none⟩)), (.agg #[.int .i64 7, .int .i64 fi, .int .i64 ai, .int .i64 ni, .string s, .string t, .slice (some ⟨b, off, none⟩) kn kc, cv])] X fun e w' => e = .returned (.bool true) ∧ DR w' B D R (m + 1) ∧ Below B X w' := by
  obtain ⟨vb, vw, lb, ws, left, count, down, l0, l1, vw', h⟩ := h
  have hB := h.low
  obtain ⟨i0, hi, hz0, hz1, hz2⟩ := info_parts infoIntD
  have hlen := h.len
  have hw : ws.length ≤ 1000000 := by omega
  have H0 : Hid (DRS (X.alloc (.cells #[.int .i64 7, .int .i64 fi, .int .i64 ai, .int .i64 ni, .string s, .string t, .slice (some ⟨b, off, none⟩) kn kc, cv] 31)) B D R (m + 1) vb vw lb ws left count down l0 l1 vw') := (h.below ((Below.refl _ _).alloc (Nat.le_refl _) _)).mono (by omega)
  have HB0 : Hid (Below B X (X.alloc (.cells #[.int .i64 7, .int .i64 fi, .int .i64 ai, .int .i64 ni, .string s, .string t, .slice (some ⟨b, off, none⟩) kn kc, cv] 31))) := (Below.refl _ _).alloc hB _
  have HK : Hid _ := hk
  have hbX : b < X.heap.size := by omega
  clear h hk hlen
  go_enter Try.func8, Try.ntmps8
  go_wp2_with (at_builtin; go_must (refine wpList_append_lies _ rfl _ _ _ rfl X.heap.size 3 i0 (.int .i64 0) 1 8 Try.underlying28 hi hz0 hz1 hz2 rfl (by decide) _ 0 [] rfl (World.ownsRow_nil _ _ _ _) ⟨b, off, none⟩ kn kc (intsC fk kn) rfl ?nl ?n0 ?r0 hk0 ?r1 ?r2 ?r3 (X.heap.size + 1) (by simp) ?_))
  case nl => rw [intsC_len, Nat.mul_one]
  case n0 =>
    intro j u hj
    have hlt : j < kn := by
      have := (List.getElem?_eq_some_iff.1 hj).1
      rw [intsC_len] at this; exact this
    rw [intsC_get fk hlt] at hj
    injection hj with hj
    subst hj
    rw [Addr.add_lit]
    exact (World.cell?_of_block (heap_alloc_old X _ hbX)).trans (HK.out j hlt)
  case r0 => intro u hu; simp [intsC] at hu; obtain ⟨x, _, rfl⟩ := hu; rfl
  case r1 => unfold maxLen; omega
  case r2 => omega
  case r3 => simp
  intro g' cap2 w4 hown2 hgrow2 hat2 hlt4
  try simp only [Nat.zero_add, List.nil_append] at hown2
  try simp only [Nat.zero_add]
  have hb4 := but_none hgrow2
  have HD : Hid _ := H0.out.below hb4
  have HB4 : Hid (Below B X w4) := HB0.out.trans (hb4.mono (by simp; omega))
  have hB4 : B ≤ w4.heap.size := Nat.le_trans hB HB4.out.size
  have ob4 : w4.heap[X.heap.size]? = some (.cells #[.int .i64 7, .int .i64 fi, .int .i64 ai, .int .i64 ni, .string s, .string t, .slice (some ⟨b, off, none⟩) kn kc, cv] 31) := (hb4.block _ (by simp)).trans (heap_alloc_new X _)
  have b6 : w4.cell? ⟨X.heap.size, 6, none⟩ = some (.slice (some ⟨b, off, none⟩) kn kc) := (obj_cell ob4 6).trans rfl
  have HO4 : Hid _ := ob4
  have zX : X.heap.size < w4.heap.size := ob_lt ob4
  have hfr := far_row (T := tyP) (by decide) hown2 g' rfl
  have hfr2 := far_row (T := tyR) (by decide) hown2 g' rfl
  have HC4 : Hid (∀ j, j < kn → w4.cell? ⟨g', 0 + j, none⟩ = some (.int .i64 (fk j))) := fun j hj => by
    rw [Nat.zero_add, hown2.cellAt j (by rw [Nat.mul_one]; exact hj), intsC_get fk hj]
  have HF : Hid _ := hfr
  have HF2 : Hid _ := hfr2
  have hkn' : kn ≤ 140737488355328 := by omega
  clear hown2 hgrow2 hat2 hlt4 hb4 ob4 hfr hfr2
  go_wp2_with fail
  refine (ccrash (some ⟨g', 0, none⟩) kn cap2 fk w4 B D vb vw lb ws left count down HD.out.pd hB4 hw hkn' (.inr ⟨g', 0, rfl, .inr HF.out, HC4.out⟩)).mono ?_
  rintro e w5 ⟨rfl, ⟨vb', hP⟩, hb5⟩
  have HP : Hid _ := hP
  have HR : Hid _ := HD.out.rd.belP hb5
  have hob5 := (hb5.far _ zX (far_blk (by decide) HO4.out)).trans HO4.out
  have b6' : w5.cell? ⟨X.heap.size, 6, none⟩ = some (.slice (some ⟨b, off, none⟩) kn kc) := (obj_cell hob5 6).trans rfl
  have HO5 : Hid _ := hob5
  have hg5 := hb5.far _ HF.out.1 HF.out.2
  have HC5 : Hid (∀ j, j < kn → w5.cell? ⟨g', 0 + j, none⟩ = some (.int .i64 (fk j))) := fun j hj => (World.cell?_of_block hg5).trans (HC4.out j hj)
  have HF5 : Hid (g' < w5.heap.size ∧ farT tyR w5 g') := ⟨Nat.lt_of_lt_of_le HF.out.1 hb5.size, HF2.out.2.of hg5⟩
  have HB5 : Hid (Below B X w5) := HB4.out.trans hb5.toBelow
  have hB5 : B ≤ w5.heap.size := Nat.le_trans hB HB5.out.size
  clear hP hb5 hob5 hg5 b6 HC4
  go_wp2_with fail
  refine (rcrash (some ⟨b, off, none⟩) kn kc fk w5 B R l0 l1 vw' ws (nrm left) count down HR.out hB5 hw hkn' (.inr ⟨b, off, rfl, .inl hb, fun j hj => (HB5.out.cell (p := ⟨b, off + j, none⟩) hb).trans (HK.out j hj)⟩) lb HD.out.e1 HD.out.e3).mono ?_
  rintro e w6 ⟨rfl, ⟨l0', l1', hR, g0, g1⟩, hb6⟩
  have H6 : Hid (DRS w6 B D R (m + 1) vb' (.slice none 0 0) (cpL (crL (fateI kn fk) ws lb ws.length) 2) [] (-1) count false l0' l1' (.slice none 0 0)) := DRS.crash (HP.out.belR hb6) hR g0 g1 HD.out.cnt
  have zX5 := ob_lt HO5.out
  have hob6 := (hb6.far _ zX5 (far_blk (by decide) HO5.out)).trans HO5.out
  have b6 : w6.cell? ⟨X.heap.size, 6, none⟩ = some (.slice (some ⟨b, off, none⟩) kn kc) := (obj_cell hob6 6).trans rfl
  have hg6 := hb6.far _ HF5.out.1 HF5.out.2
  have HC6 : Hid (∀ j, j < kn → w6.cell? ⟨g', 0 + j, none⟩ = some (.int .i64 (fk j))) := fun j hj => (World.cell?_of_block hg6).trans (HC5.out j hj)
  have HB6 : Hid (Below B X w6) := HB5.out.trans hb6.toBelow
  generalize cpL (crL (fateI kn fk) ws lb ws.length) 2 = lz at *
  clear hR g0 g1 hb6 hob6 hg6 b6' HC5 HP HR HO5 HO4 HD H0 HB0
  go_wp2_with fail
  refine (lsame g' 0 cap2 b off kc kn fk w6 hkn' HC6.out (fun j hj => (HB6.out.cell (p := ⟨b, off + j, none⟩) hb).trans (HK.out j hj))).mono ?_
  rintro e W ⟨rfl, hb7⟩
  have H1 : Hid (DRS W B D R (m + 1) vb' (.slice none 0 0) lz [] (-1) count false l0' l1' (.slice none 0 0)) := H6.out.below hb7
  have HB1 : Hid (Below B X W) := HB6.out.trans (hb7.mono (Nat.le_trans hB HB6.out.size))
  obtain ⟨-, -, c2, -, c4, c5⟩ := H1.out.rd.cells
  clear hb7 b6 HC6 H6 HB6
  go_wp2_with fail
  have H1d : Hid (DRS W.drew B D R (m + 1) vb' (.slice none 0 0) lz [] (-1) count false l0' l1' (.slice none 0 0)) := H1.out.below (drew_below W 1)
  have HB1d : Hid (Below B X W.drew) := HB1.out.drew
  go_region_held3 (fun w' => Hid (DRS w' B D R (m + 1) vb' (.slice none 0 0) lz [] (-1) count false l0' l1' (.slice none 0 0)) ∧ Hid (Below B X w') ∧ w'.cell? ⟨R, 4, none⟩ = some (.bool false) ∧ w'.cell? ⟨R, 5, none⟩ = some (.int .i64 count) ∧ w'.cell? ⟨R, 2, none⟩ = some (.slice none 0 0)) (first | (and_intros <;> first | exact H1d | exact HB1d | assumption) | (go_split_ands; and_intros <;> assumption))
    (first | (go_at_call 20; refine (cdown _ B D vb' (.slice none 0 0) lz [] (-1) count false (Hid.out (by assumption : Hid (DRS _ B D R (m + 1) vb' (.slice none 0 0) lz [] (-1) count false l0' l1' (.slice none 0 0)))).pd).mono ?_; rintro e w' ⟨rfl, rfl⟩) | (go_at_call 38; refine (ccount _ B D vb' (.slice none 0 0) lz [] (-1) count false (Hid.out (by assumption : Hid (DRS _ B D R (m + 1) vb' (.slice none 0 0) lz [] (-1) count false l0' l1' (.slice none 0 0)))).pd).mono ?_; rintro e w' ⟨rfl, rfl⟩) | (go_at_call 39; refine (cwaits _ B D vb' (.slice none 0 0) lz [] (-1) count false (Hid.out (by assumption : Hid (DRS _ B D R (m + 1) vb' (.slice none 0 0) lz [] (-1) count false l0' l1' (.slice none 0 0)))).pd).mono ?_; rintro e w' ⟨rfl, rfl⟩))
  go_wp2
  go_ret
  go_split_ands
  exact ⟨rfl, ⟨_, _, _, _, _, _, _, _, _, _, Hid.out (by assumption)⟩, Hid.out (by assumption)⟩
end Go.Proofs.Ytfjkockcgddgbaa
