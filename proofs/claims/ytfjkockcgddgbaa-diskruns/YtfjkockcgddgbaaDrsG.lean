/- relstorelaw.disks: acts that do nothing; Fail -/
import Derived.Test.YtfjkockcgddgbaaDrsF
import Derived.Deep.RegionHeld3
namespace Go.Proofs.Ytfjkockcgddgbaa
open Go.RowKit Go.Lib
attribute [local go_sem ↓] Go.wp_at_zero Go.wp_at_succ
set_option maxRecDepth 20000 in
set_option maxHeartbeats 2000000 in
theorem ldisks0 (k fi ai ni : Int) (h1 : ¬ k = 1) (h2 : ¬ k = 2) (h3 : ¬ k = 3) (h4 : ¬ k = 4) (h5 : ¬ k = 5) (h6 : ¬ k = 6) (h7 : ¬ k = 7) (s t : ByteArray) (kv cv : Value) (X : World) (B D R m : Nat) (h : DR X B D R m) :
    Calls Try.prog 8 #[(.pointer (some ⟨D, 0, none⟩)), (.pointer (some ⟨R, 0, none⟩)), (.agg #[.int .i64 k, .int .i64 fi, .int .i64 ai, .int .i64 ni, .string s, .string t, kv, cv])] X fun e w' => e = .returned (.bool true) ∧ DR w' B D R (m + 1) ∧ Below B X w' := by
  obtain ⟨vb, vw, lb, ws, left, count, down, l0, l1, vw', h⟩ := h
  obtain ⟨aw, cw, rfl⟩ := owns_sliceA h.rd.wrow
  have hB := h.low
  have H1 : Hid (DRS (X.alloc (.cells #[.int .i64 k, .int .i64 fi, .int .i64 ai, .int .i64 ni, .string s, .string t, kv, cv] 31)) B D R (m + 1) vb vw lb ws left count down l0 l1 (.slice aw ws.length cw)) := (h.below ((Below.refl _ _).alloc (Nat.le_refl _) _)).mono (by omega)
  have HB1 : Hid (Below B X (X.alloc (.cells #[.int .i64 k, .int .i64 fi, .int .i64 ai, .int .i64 ni, .string s, .string t, kv, cv] 31))) := (Below.refl _ _).alloc hB _
  obtain ⟨-, -, c2, -, c4, c5⟩ := H1.out.rd.cells
  clear h
  go_enter Try.func8, Try.ntmps8
  go_wp2_with fail
  generalize X.alloc (.cells #[.int .i64 k, .int .i64 fi, .int .i64 ai, .int .i64 ni, .string s, .string t, kv, cv] 31) = W at *
  have H1d : Hid (DRS W.drew B D R (m + 1) vb vw lb ws left count down l0 l1 (.slice aw ws.length cw)) := H1.out.below (drew_below W 1)
  have HB1d : Hid (Below B X W.drew) := HB1.out.drew
  go_region_held3 (fun w' => Hid (DRS w' B D R (m + 1) vb vw lb ws left count down l0 l1 (.slice aw ws.length cw)) ∧ Hid (Below B X w') ∧ w'.cell? ⟨R, 4, none⟩ = some (.bool down) ∧ w'.cell? ⟨R, 5, none⟩ = some (.int .i64 count) ∧ w'.cell? ⟨R, 2, none⟩ = some (.slice aw ws.length cw)) (first | (and_intros <;> first | exact H1d | exact HB1d | assumption) | (go_split_ands; and_intros <;> assumption))
    (first | (go_at_call 20; refine (cdown _ B D vb vw lb ws left count down (Hid.out (by assumption : Hid (DRS _ B D R (m + 1) vb vw lb ws left count down l0 l1 (.slice aw ws.length cw)))).pd).mono ?_; rintro e w' ⟨rfl, rfl⟩) | (go_at_call 38; refine (ccount _ B D vb vw lb ws left count down (Hid.out (by assumption : Hid (DRS _ B D R (m + 1) vb vw lb ws left count down l0 l1 (.slice aw ws.length cw)))).pd).mono ?_; rintro e w' ⟨rfl, rfl⟩) | (go_at_call 39; refine (cwaits _ B D vb vw lb ws left count down (Hid.out (by assumption : Hid (DRS _ B D R (m + 1) vb vw lb ws left count down l0 l1 (.slice aw ws.length cw)))).pd).mono ?_; rintro e w' ⟨rfl, rfl⟩))
  go_wp2
  go_ret
  go_split_ands
  exact ⟨rfl, ⟨_, _, _, _, _, _, _, _, _, _, Hid.out (by assumption)⟩, Hid.out (by assumption)⟩
theorem box_keep {T : TypeId → Bool} {B : Nat} {X w1 : World} {cur : Array Value} {e : TypeId} (he : T e = false) (hb : BelT T B (X.alloc (.cells cur e)) w1) : w1.heap[X.heap.size]? = some (.cells cur e (0, 0)) := by
  have h0 : (X.alloc (.cells cur e)).heap[X.heap.size]? = some (.cells cur e (0, 0)) := heap_alloc_new X _
  exact (hb.far _ (by simp) (far_blk he h0)).trans h0
theorem nrm_if (n : Int) : (if n < 0 then -1 else n) = nrm n := rfl
set_option maxRecDepth 20000 in
set_option maxHeartbeats 2000000 in
theorem ldisks6 (fi ai ni : Int) (hn : -9223372036854775808 ≤ ni ∧ ni ≤ 9223372036854775807) (s t : ByteArray) (kv cv : Value) (X : World) (B D R m : Nat) (h : DR X B D R m) :
    Calls Try.prog 8 #[(.pointer (some ⟨D, 0, none⟩)), (.pointer (some ⟨R, 0, none⟩)), (.agg #[.int .i64 6, .int .i64 fi, .int .i64 ai, .int .i64 ni, .string s, .string t, kv, cv])] X fun e w' => e = .returned (.bool true) ∧ DR w' B D R (m + 1) ∧ Below B X w' := by
  obtain ⟨vb, vw, lb, ws, left, count, down, l0, l1, vw', h⟩ := h
  obtain ⟨aw, cw, rfl⟩ := owns_sliceA h.rd.wrow
  have hB := h.low
  have HN : Hid _ := hn
  have H0 : Hid (DRS (X.alloc (.cells #[.int .i64 6, .int .i64 fi, .int .i64 ai, .int .i64 ni, .string s, .string t, kv, cv] 31)) B D R (m + 1) vb vw lb ws left count down l0 l1 (.slice aw ws.length cw)) := (h.below ((Below.refl _ _).alloc (Nat.le_refl _) _)).mono (by omega)
  have HB0 : Hid (Below B X (X.alloc (.cells #[.int .i64 6, .int .i64 fi, .int .i64 ai, .int .i64 ni, .string s, .string t, kv, cv] 31))) := (Below.refl _ _).alloc hB _
  clear h hn
  go_enter Try.func8, Try.ntmps8
  go_wp2_with fail
  refine (cfail ni _ B D vb vw lb ws left count down H0.out.pd).mono ?_
  rintro e w1 ⟨rfl, hP, hb⟩
  have hbx := box_keep (by decide) hb
  have b3 : w1.cell? ⟨X.heap.size, 3, none⟩ = some (.int .i64 ni) := by simp [World.cell?, hbx]
  have HP : Hid (PD w1 B D vb vw lb ws ni count down) := hP
  have HR : Hid (RD w1 B R l0 l1 (.slice aw ws.length cw) ws (nrm left) count down) := H0.out.rd.belP hb
  have HBW : Hid (Below B X w1) := HB0.out.trans hb.toBelow
  clear hP hb hbx
  go_wp2_with fail
  refine (rfail ni w1 B R l0 l1 _ ws _ count down HR.out).mono ?_
  rintro e W ⟨rfl, hR, hb⟩
  have H1 : Hid (DRS W B D R (m + 1) vb vw lb ws ni count down l0 l1 (.slice aw ws.length cw)) := ⟨HP.out.belR hb, hR, H0.out.e1, H0.out.e3, H0.out.sees, H0.out.len, H0.out.cnt, HN.out⟩
  have HB1 : Hid (Below B X W) := HBW.out.trans hb.toBelow
  obtain ⟨-, -, c2, -, c4, c5⟩ := H1.out.rd.cells
  clear hR hb b3 HP HR HBW H0 HB0
  go_wp2_with fail
  have H1d : Hid (DRS W.drew B D R (m + 1) vb vw lb ws ni count down l0 l1 (.slice aw ws.length cw)) := H1.out.below (drew_below W 1)
  have HB1d : Hid (Below B X W.drew) := HB1.out.drew
  go_region_held3 (fun w' => Hid (DRS w' B D R (m + 1) vb vw lb ws ni count down l0 l1 (.slice aw ws.length cw)) ∧ Hid (Below B X w') ∧ w'.cell? ⟨R, 4, none⟩ = some (.bool down) ∧ w'.cell? ⟨R, 5, none⟩ = some (.int .i64 count) ∧ w'.cell? ⟨R, 2, none⟩ = some (.slice aw ws.length cw)) (first | (and_intros <;> first | exact H1d | exact HB1d | assumption) | (go_split_ands; and_intros <;> assumption))
    (first | (go_at_call 20; refine (cdown _ B D vb vw lb ws ni count down (Hid.out (by assumption : Hid (DRS _ B D R (m + 1) vb vw lb ws ni count down l0 l1 (.slice aw ws.length cw)))).pd).mono ?_; rintro e w' ⟨rfl, rfl⟩) | (go_at_call 38; refine (ccount _ B D vb vw lb ws ni count down (Hid.out (by assumption : Hid (DRS _ B D R (m + 1) vb vw lb ws ni count down l0 l1 (.slice aw ws.length cw)))).pd).mono ?_; rintro e w' ⟨rfl, rfl⟩) | (go_at_call 39; refine (cwaits _ B D vb vw lb ws ni count down (Hid.out (by assumption : Hid (DRS _ B D R (m + 1) vb vw lb ws ni count down l0 l1 (.slice aw ws.length cw)))).pd).mono ?_; rintro e w' ⟨rfl, rfl⟩))
  go_wp2
  go_ret
  go_split_ands
  exact ⟨rfl, ⟨_, _, _, _, _, _, _, _, _, _, Hid.out (by assumption)⟩, Hid.out (by assumption)⟩
end Go.Proofs.Ytfjkockcgddgbaa
