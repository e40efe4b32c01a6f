/- relstoreref's disk: NewDisk, in, turn, Fail -/
import Derived.Test.YtfjkockcgddgbaaDskS
namespace Go.Proofs.Ytfjkockcgddgbaa
open Go.RowKit Go.Lib
attribute [local go_sem ↓] Go.wp_at_zero Go.wp_at_succ
set_option maxHeartbeats 600000 in
theorem rin (x lo hi : Int) (w : World) : Calls Try.prog 57 #[.int .i64 x, .int .i64 lo, .int .i64 hi] w fun e w' => e = .returned (.bool (decide (lo ≤ x) && decide (x ≤ hi))) ∧ w' = w := by
  by_cases h : lo ≤ x
  · have HE : Hid ((decide (lo ≤ x) && decide (x ≤ hi)) = decide (x ≤ hi)) := by
      show (decide (lo ≤ x) && decide (x ≤ hi)) = decide (x ≤ hi)
      rw [decide_eq_true h]; rfl
    go_enter Try.func57, Try.ntmps57
    go_wp2
    go_ret
    exact ⟨by rw [HE.out]; rfl, rfl⟩
  · have HE : Hid ((decide (lo ≤ x) && decide (x ≤ hi)) = false) := by
      show (decide (lo ≤ x) && decide (x ≤ hi)) = false
      rw [decide_eq_false h]; rfl
    have h' : x < lo := by omega
    go_enter Try.func57, Try.ntmps57
    go_wp2
    go_ret
    exact ⟨by rw [HE.out]; rfl, rfl⟩
/- the types of that disk's blocks -/
def tyR (e : TypeId) : Bool := decide (e = 66) || decide (e = 102)
theorem RD.nf {X : World} {B D : Nat} {l0 l1 : ByteArray} {vw : Value} {ws : List Chg} {left count : Int} {down : Bool} (h : RD X B D l0 l1 vw ws left count down) : ¬ farT tyR X D := blk_nf (by decide) h.blk
theorem RD.unfrozen {X : World} {B D : Nat} {l0 l1 : ByteArray} {vw : Value} {ws : List Chg} {left count : Int} {down : Bool} (h : RD X B D l0 l1 vw ws left count down) (k : Nat) : X.frozen? ⟨D, k, none⟩ = false := by simp [World.frozen?, h.blk]
theorem RD.own {X : World} {B D : Nat} {l0 l1 l0' l1' : ByteArray} {vw : Value} {ws : List Chg} {left count left' count' : Int} {down down' : Bool} {k : Nat} {v : Value} (h : RD X B D l0 l1 vw ws left count down) (h0 : l0'.size ≤ 67108864) (h1 : l1'.size ≤ 67108864) (he : #[.string l0, .string l1, vw, .int .i64 left, .bool down, .int .i64 count].setIfInBounds k v = #[.string l0', .string l1', vw, .int .i64 left', .bool down', .int .i64 count']) : RD (X.setCell ⟨D, k, none⟩ v) B D l0' l1' vw ws left' count' down' :=
  ⟨by rw [set_blk h.blk, he], h.low, World.ownsRow.kept h.wrow (set_grown X D k v) (row_neD h.blk (by decide) h.wrow), h0, h1, h.oks⟩
set_option maxHeartbeats 1000000 in
theorem rfail (n : Int) (X : World) (B D : Nat) (l0 l1 : ByteArray) (vw : Value) (ws : List Chg) (left count : Int) (down : Bool) (h : RD X B D l0 l1 vw ws left count down) :
    Calls Try.prog 35 #[(.pointer (some ⟨D, 0, none⟩)), .int .i64 n] X fun e w' => e = .returned (.tuple #[]) ∧ RD w' B D l0 l1 vw ws (if n < 0 then -1 else n) count down ∧ BelT tyR B X w' := by
  have H : Hid (RD X B D l0 l1 vw ws left count down) := h
  obtain ⟨c0, c1, c2, c3, c4, c5⟩ := h.cells
  have f3 := h.unfrozen 3
  clear h
  have HF : Hid (RD (X.setCell ⟨D, 3, none⟩ (.int .i64 n)) B D l0 l1 vw ws n count down) := H.out.own H.out.s0 H.out.s1 rfl
  have HG : Hid (RD ((X.setCell ⟨D, 3, none⟩ (.int .i64 n)).setCell ⟨D, 3, none⟩ (.int .i64 (-1))) B D l0 l1 vw ws (-1) count down) := HF.out.own H.out.s0 H.out.s1 rfl
  have HB1 : Hid (BelT tyR B X (X.setCell ⟨D, 3, none⟩ (.int .i64 n))) := (BelT.refl _ _ _).setCell H.out.low (fun _ => H.out.nf) _
  have HB2 : Hid (BelT tyR B X ((X.setCell ⟨D, 3, none⟩ (.int .i64 n)).setCell ⟨D, 3, none⟩ (.int .i64 (-1)))) := HB1.out.setCell H.out.low (fun _ => H.out.nf) _
  by_cases hn : n < 0
  · rw [if_pos hn]
    go_enter Try.func35, Try.ntmps35
    go_wp2_with fail
    go_end0
    exact ⟨rfl, HG.out, HB2.out⟩
  · rw [if_neg hn]
    go_enter Try.func35, Try.ntmps35
    go_wp2_with fail
    go_end0
    exact ⟨rfl, HF.out, HB1.out⟩
theorem rd_zero (X : World) (B : Nat) (hB : B ≤ X.heap.size) : RD (X.alloc (.cells #[.string ⟨#[]⟩, .string ⟨#[]⟩, .slice none 0 0, .int .i64 (-1), .bool false, .int .i64 0] 66)) B X.heap.size ⟨#[]⟩ ⟨#[]⟩ (.slice none 0 0) [] (-1) 0 false :=
  ⟨(by show (X.heap.push _)[X.heap.size]? = _; rw [Array.getElem?_push_size]), hB, World.ownsRow_nil _ _ _ _, by decide, by decide, fun x hx => by cases hx⟩
set_option maxHeartbeats 1000000 in
theorem rnew (X : World) (B : Nat) (hB : B ≤ X.heap.size) :
    Calls Try.prog 6 #[] X fun e w' => e = .returned (.pointer (some ⟨X.heap.size, 0, none⟩)) ∧ RD w' B X.heap.size ⟨#[]⟩ ⟨#[]⟩ (.slice none 0 0) [] (-1) 0 false ∧ Below X.heap.size X w' := by
  have HP : Hid _ := rd_zero X B hB
  go_enter Try.func6, Try.ntmps6
  go_wp2_with fail
  go_ret
  exact ⟨rfl, HP.out, ((Below.refl _ _).alloc (Nat.le_refl _) _)⟩
/- what turn answers, and makes of the disk -/
def turPost (X : World) (B D : Nat) (l0 l1 : ByteArray) (vw : Value) (ws : List Chg) (left count : Int) (down : Bool) (e : Ending) (w' : World) : Prop :=
  ((down = true ∨ left = 0) ∧ e = .returned (.int .i64 2) ∧ RD w' B D l0 l1 vw ws left count true ∧ But X w' (some D)) ∨
  (down = false ∧ ¬ left = 0 ∧ e = .returned (.int .i64 0) ∧ RD w' B D l0 l1 vw ws (decL left) (count + 1) false ∧ But X w' (some D))
set_option maxHeartbeats 1000000 in
theorem rturn (X : World) (B D : Nat) (l0 l1 : ByteArray) (vw : Value) (ws : List Chg) (left count : Int) (down : Bool) (h : RD X B D l0 l1 vw ws left count down) (hl : -9223372036854775808 ≤ left ∧ left ≤ 9223372036854775807) (hc : 0 ≤ count ∧ count ≤ 4611686018427387904) :
    Calls Try.prog 58 #[(.pointer (some ⟨D, 0, none⟩))] X (turPost X B D l0 l1 vw ws left count down) := by
  have H : Hid (RD X B D l0 l1 vw ws left count down) := h
  obtain ⟨c0, c1, c2, c3, c4, c5⟩ := h.cells
  have f3 := h.unfrozen 3
  have f4 := h.unfrozen 4
  have f5 := h.unfrozen 5
  clear h
  have HD : Hid (RD (X.setCell ⟨D, 4, none⟩ (.bool true)) B D l0 l1 vw ws left count true) := H.out.own H.out.s0 H.out.s1 rfl
  have HDB : Hid (But X (X.setCell ⟨D, 4, none⟩ (.bool true)) (some D)) := set_grown X D 4 _
  cases down
  · by_cases h0 : left = 0
    · subst h0
      go_enter Try.func58, Try.ntmps58
      go_wp2_with fail
      first | (go_quiet (fail); go_wp2) | skip
      go_ret
      exact .inl ⟨.inr rfl, rfl, HD.out, HDB.out⟩
    · by_cases hp : 0 < left
      · have HR : Hid (RD ((X.setCell ⟨D, 3, none⟩ (.int .i64 (left - 1))).setCell ⟨D, 5, none⟩ (.int .i64 (count + 1))) B D l0 l1 vw ws (left - 1) (count + 1) false) := (H.out.own (left' := left - 1) (count' := count) (down' := false) H.out.s0 H.out.s1 rfl).own H.out.s0 H.out.s1 rfl
        have HRB : Hid (But X ((X.setCell ⟨D, 3, none⟩ (.int .i64 (left - 1))).setCell ⟨D, 5, none⟩ (.int .i64 (count + 1))) (some D)) := ((But.refl X (some D)).set 3 _).set 5 _
        have e : decL left = left - 1 := by unfold decL; rw [if_pos hp]
        go_enter Try.func58, Try.ntmps58
        go_wp2_with fail
        first | (go_quiet (fail); go_wp2) | skip
        go_ret
        exact .inr ⟨rfl, h0, rfl, by rw [e]; exact HR.out, HRB.out⟩
      · have HR : Hid (RD (X.setCell ⟨D, 5, none⟩ (.int .i64 (count + 1))) B D l0 l1 vw ws left (count + 1) false) := H.out.own H.out.s0 H.out.s1 rfl
        have HRB : Hid (But X (X.setCell ⟨D, 5, none⟩ (.int .i64 (count + 1))) (some D)) := set_grown X D 5 _
        have e : decL left = left := by unfold decL; rw [if_neg hp]
        go_enter Try.func58, Try.ntmps58
        go_wp2_with fail
        first | (go_quiet (fail); go_wp2) | skip
        go_ret
        exact .inr ⟨rfl, h0, rfl, by rw [e]; exact HR.out, HRB.out⟩
  · go_enter Try.func58, Try.ntmps58
    go_wp2_with fail
    first | (go_quiet (fail); go_wp2) | skip
    go_ret
    exact .inl ⟨.inl rfl, rfl, HD.out, HDB.out⟩
end Go.Proofs.Ytfjkockcgddgbaa
