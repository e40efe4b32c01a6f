/- relstorelaw.disks: Read, Size -/
import Derived.Test.YtfjkockcgddgbaaDrsB
namespace Go.Proofs.Ytfjkockcgddgbaa
open Go.RowKit Go.Lib
attribute [local go_sem ↓] Go.wp_at_zero Go.wp_at_succ
set_option maxRecDepth 20000 in
set_option maxHeartbeats 1000000 in
theorem ldisks1 (fi ai ni : Int) (s t : ByteArray) (kv cv : Value) (X : World) (B D R m : Nat) (hm : m ≤ 1000) (h : DR X B D R m) :
    Calls Try.prog 8 #[(.pointer (some ⟨D, 0, none⟩)), (.pointer (some ⟨R, 0, none⟩)), (.agg #[.int .i64 1, .int .i64 fi, .int .i64 ai, .int .i64 ni, .string s, .string t, kv, cv])] X fun e w' => e = .returned (.bool true) ∧ DR w' B D R (m + 1) ∧ Below B X w' := by
  obtain ⟨vb, vw, lb, ws, left, count, down, l0, l1, vw', h⟩ := h
  have hlen := h.len
  have hw : ws.length ≤ 1000000 := by omega
  have hB := h.low
  have H1 : Hid (DRS (X.alloc (.cells #[.int .i64 1, .int .i64 fi, .int .i64 ai, .int .i64 ni, .string s, .string t, kv, cv] 31)) B D R (m + 1) vb vw lb ws left count down l0 l1 vw') := (h.below ((Below.refl _ _).alloc (Nat.le_refl _) _)).mono (by omega)
  clear h
  go_enter Try.func8, Try.ntmps8
  go_wp2_with fail
  refine (cread fi ai ni _ B D vb vw lb ws left count down H1.out.pd).mono ?_
  rintro e w1 ⟨rfl, rfl⟩
  go_wp2_with fail
  refine (rread fi ai ni _ B R l0 l1 vw' ws _ count down H1.out.rd hw lb H1.out.sees).mono ?_
  rintro e w2 ⟨rfl, hb⟩
  have HR : Hid (DRS w2 B D R (m + 1) vb vw lb ws left count down l0 l1 vw') := H1.out.below hb
  have HB : Hid (Below B X w2) := ((Below.refl _ _).alloc hB _).trans (hb.mono (by simp; omega))
  clear hb
  go_wp2_with fail
  refine (dnum _ _).mono ?_
  rintro e w3 ⟨rfl, rfl⟩
  go_wp2_with fail
  go_ret
  exact ⟨rfl, ⟨_, _, _, _, _, _, _, _, _, _, HR.out⟩, HB.out⟩
set_option maxRecDepth 20000 in
set_option maxHeartbeats 1000000 in
theorem ldisks4 (fi ai ni : Int) (s t : ByteArray) (kv cv : Value) (X : World) (B D R m : Nat) (hm : m ≤ 1000) (h : DR X B D R m) :
    Calls Try.prog 8 #[(.pointer (some ⟨D, 0, none⟩)), (.pointer (some ⟨R, 0, none⟩)), (.agg #[.int .i64 4, .int .i64 fi, .int .i64 ai, .int .i64 ni, .string s, .string t, kv, cv])] X fun e w' => e = .returned (.bool true) ∧ DR w' B D R (m + 1) ∧ Below B X w' := by
  obtain ⟨vb, vw, lb, ws, left, count, down, l0, l1, vw', h⟩ := h
  have hlen := h.len
  have hw : ws.length ≤ 1000000 := by omega
  have hB := h.low
  have H1 : Hid (DRS (X.alloc (.cells #[.int .i64 4, .int .i64 fi, .int .i64 ai, .int .i64 ni, .string s, .string t, kv, cv] 31)) B D R (m + 1) vb vw lb ws left count down l0 l1 vw') := (h.below ((Below.refl _ _).alloc (Nat.le_refl _) _)).mono (by omega)
  clear h
  go_enter Try.func8, Try.ntmps8
  go_wp2_with fail
  refine (csize fi _ B D vb vw lb ws left count down H1.out.pd).mono ?_
  rintro e w1 ⟨rfl, rfl⟩
  go_wp2_with fail
  refine (rsize fi _ B R l0 l1 vw' ws _ count down H1.out.rd hw lb H1.out.sees).mono ?_
  rintro e w2 ⟨rfl, hb⟩
  have HR : Hid (DRS w2 B D R (m + 1) vb vw lb ws left count down l0 l1 vw') := H1.out.below hb
  have HB : Hid (Below B X w2) := ((Below.refl _ _).alloc hB _).trans (hb.mono (by simp; omega))
  clear hb
  go_wp2_with fail
  refine (dnum _ _).mono ?_
  rintro e w3 ⟨rfl, rfl⟩
  go_wp2_with fail
  go_ret
  exact ⟨rfl, ⟨_, _, _, _, _, _, _, _, _, _, HR.out⟩, HB.out⟩
end Go.Proofs.Ytfjkockcgddgbaa
