/- package disk: New, Fail, Down, Count, Waits, fate -/
import Derived.Test.YtfjkockcgddgbaaDsk8
namespace Go.Proofs.Ytfjkockcgddgbaa
open Go.RowKit Go.Lib
attribute [local go_sem ↓] Go.wp_at_zero Go.wp_at_succ
set_option maxHeartbeats 1000000 in
theorem cdown (X : World) (B D : Nat) (vb : Nat → Value) (vw : Value) (lb : Nat → List UInt8) (ws : List Chg) (left count : Int) (down : Bool) (h : PD X B D vb vw lb ws left count down) :
    Calls Try.prog 20 #[(.pointer (some ⟨D, 0, none⟩))] X fun e w' => e = .returned (.bool down) ∧ w' = X := by
  obtain ⟨c0, c1, c2, c3, c4, c5, c6, c7⟩ := h.cells
  clear h
  go_enter Try.func20, Try.ntmps20
  go_wp2_with fail
  go_ret
  exact ⟨rfl, rfl⟩
set_option maxHeartbeats 1000000 in
theorem ccount (X : World) (B D : Nat) (vb : Nat → Value) (vw : Value) (lb : Nat → List UInt8) (ws : List Chg) (left count : Int) (down : Bool) (h : PD X B D vb vw lb ws left count down) :
    Calls Try.prog 38 #[(.pointer (some ⟨D, 0, none⟩))] X fun e w' => e = .returned (.int .i64 count) ∧ w' = X := by
  obtain ⟨c0, c1, c2, c3, c4, c5, c6, c7⟩ := h.cells
  clear h
  go_enter Try.func38, Try.ntmps38
  go_wp2_with fail
  go_ret
  exact ⟨rfl, rfl⟩
set_option maxHeartbeats 1000000 in
theorem cwaits (X : World) (B D : Nat) (vb : Nat → Value) (vw : Value) (lb : Nat → List UInt8) (ws : List Chg) (left count : Int) (down : Bool) (h : PD X B D vb vw lb ws left count down) :
    Calls Try.prog 39 #[(.pointer (some ⟨D, 0, none⟩))] X fun e w' => e = .returned (.int .i64 (ws.length : Nat)) ∧ w' = X := by
  obtain ⟨aw, cw, rfl⟩ := owns_sliceC h.wrow
  obtain ⟨c0, c1, c2, c3, c4, c5, c6, c7⟩ := h.cells
  clear h
  go_enter Try.func39, Try.ntmps39
  go_wp2_with fail
  go_ret
  exact ⟨rfl, rfl⟩
theorem PD.own {X : World} {B D : Nat} {vb : Nat → Value} {vw : Value} {lb : Nat → List UInt8} {ws : List Chg} {left count left' count' : Int} {down down' : Bool} {k : Nat} {v : Value} (h : PD X B D vb vw lb ws left count down) (he : #[vb 0, vb 1, vb 2, vb 3, vw, .int .i64 left, .int .i64 count, .bool down].setIfInBounds k v = #[vb 0, vb 1, vb 2, vb 3, vw, .int .i64 left', .int .i64 count', .bool down']) : PD (X.setCell ⟨D, k, none⟩ v) B D vb vw lb ws left' count' down' := by
  have hset := set_grown X D k v
  exact ⟨by rw [set_blk h.blk, he], h.low, fun i hi => World.ownsRow.kept (h.rows i hi) hset (row_neD h.blk (by decide) (h.rows i hi)), World.ownsRow.kept h.wrow hset (row_neD h.blk (by decide) h.wrow), h.dif, h.size, h.oks⟩
set_option maxHeartbeats 1000000 in
theorem cfail (n : Int) (X : World) (B D : Nat) (vb : Nat → Value) (vw : Value) (lb : Nat → List UInt8) (ws : List Chg) (left count : Int) (down : Bool) (h : PD X B D vb vw lb ws left count down) :
    Calls Try.prog 11 #[(.pointer (some ⟨D, 0, none⟩)), .int .i64 n] X fun e w' => e = .returned (.tuple #[]) ∧ PD w' B D vb vw lb ws n count down ∧ BelT tyP B X w' := by
  have H : Hid (PD X B D vb vw lb ws left count down) := h
  obtain ⟨c0, c1, c2, c3, c4, c5, c6, c7⟩ := h.cells
  have f5 := h.unfrozen 5
  clear h
  go_enter Try.func11, Try.ntmps11
  go_wp2_with fail
  go_end0
  exact ⟨rfl, H.out.own rfl, (BelT.refl _ _ _).setCell H.out.low (fun _ => H.out.nf) _⟩
/- what becomes of the i-th change that waits: 0 when nothing is said of it -/
def fateI (n : Nat) (f : Nat → Int) (i : Nat) : Int := if n = 0 then 0 else f (i % n)
set_option maxHeartbeats 1000000 in
theorem cfate (a : Option Addr) (n cap : Nat) (f : Nat → Int) (i : Nat) (X : World) (hi : i ≤ 1000000) (hn : n ≤ 140737488355328) (h : n = 0 ∨ ∃ b off, a = some ⟨b, off, none⟩ ∧ ∀ j, j < n → X.cell? ⟨b, off + j, none⟩ = some (.int .i64 (f j))) :
    Calls Try.prog 49 #[.slice a n cap, .int .i64 i] X fun e w' => e = .returned (.int .i64 (fateI n f i)) ∧ w' = X := by
  by_cases h0 : n = 0
  · subst h0
    have e : fateI 0 f i = 0 := rfl
    rw [e]
    clear e h
    go_enter Try.func49, Try.ntmps49
    go_wp2_with fail
    go_ret
    exact ⟨rfl, rfl⟩
  · obtain ⟨b, off, rfl, hc⟩ := h.resolve_left h0
    have e : fateI n f i = f (i % n) := by unfold fateI; rw [if_neg h0]
    rw [e]
    have hlt := Nat.mod_lt i (show 0 < n by omega)
    have hcc := hc _ hlt
    have e1 : Int.tmod (i : Int) (n : Int) = ((i % n : Nat) : Int) := by rw [Int.tmod_eq_emod_of_nonneg (by omega)]; omega
    have k1 : (0 : Int) ≤ ((i % n : Nat) : Int) := by omega
    have k2 : ((i % n : Nat) : Int) < (n : Int) := by omega
    have k3 : ¬ (n : Int) = 0 := by omega
    clear e h hc
    go_enter Try.func49, Try.ntmps49
    go_wp2_with fail
    go_ret
    exact ⟨rfl, rfl⟩
theorem pd_zero (X : World) (B : Nat) (hB : B ≤ X.heap.size) : PD (X.alloc (.cells #[.slice none 0 0, .slice none 0 0, .slice none 0 0, .slice none 0 0, .slice none 0 0, .int .i64 (-1), .int .i64 0, .bool false] 62)) B X.heap.size (fun _ => .slice none 0 0) (.slice none 0 0) (fun _ => []) [] (-1) 0 false :=
  ⟨(by show (X.heap.push _)[X.heap.size]? = _; rw [Array.getElem?_push_size]), hB, fun i hi => World.ownsRow_nil _ _ _ _, World.ownsRow_nil _ _ _ _, fun i j _ _ _ => .inl rfl, fun i _ => Nat.zero_le _, fun x hx => by cases hx⟩
set_option maxHeartbeats 1000000 in
theorem cnew (X : World) :
    Calls Try.prog 5 #[] X fun e w' => e = .returned (.pointer (some ⟨X.heap.size, 0, none⟩)) ∧ PD w' X.heap.size X.heap.size (fun _ => .slice none 0 0) (.slice none 0 0) (fun _ => []) [] (-1) 0 false ∧ Below X.heap.size X w' := by
  have HP : Hid _ := pd_zero X X.heap.size (Nat.le_refl _)
  go_enter Try.func5, Try.ntmps5
  go_wp2_with fail
  go_ret
  exact ⟨rfl, HP.out, ((Below.refl _ _).alloc (Nat.le_refl _) _)⟩
end Go.Proofs.Ytfjkockcgddgbaa
