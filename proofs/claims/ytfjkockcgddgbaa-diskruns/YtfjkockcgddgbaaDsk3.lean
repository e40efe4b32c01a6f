/- package disk: last, turn -/
import Derived.Test.YtfjkockcgddgbaaDsk2
namespace Go.Proofs.Ytfjkockcgddgbaa
open Go.RowKit Go.Lib
attribute [local go_sem ↓] Go.wp_at_zero Go.wp_at_succ
theorem row_neD {X : World} {B D : Nat} {cur : Array Value} {e e' : TypeId} {fz : Nat × Nat} {size : Nat} {v : Value} {n : Nat} {xs : List Value} (hD : X.heap[D]? = some (.cells cur e' fz)) (he : ¬ e = e') (ho : X.ownsRow B e size v n xs) : v.ownBlock = none ∨ v.ownBlock ≠ some D := by
  rcases ho.2 with ⟨rfl, _⟩ | ⟨g, cap, cur', rfl, _, hgg, _⟩
  · exact .inl rfl
  · refine .inr fun hx => ?_
    injection hx with hx
    have hx' : g = D := hx
    rw [hx', hD] at hgg
    injection hgg with hgg
    injection hgg with _ h2 _
    exact he h2.symm
def updF {α : Type} (f : Nat → α) (k : Nat) (v : α) : Nat → α := fun i => if i = k then v else f i
theorem updF_at {α : Type} (f : Nat → α) (k : Nat) (v : α) : updF f k v k = v := by unfold updF; rw [if_pos rfl]
theorem updF_ne {α : Type} (f : Nat → α) {k i : Nat} (v : α) (h : ¬ i = k) : updF f k v i = f i := by unfold updF; rw [if_neg h]
theorem neD' {o : Option Nat} {D : Nat} (h : o = none ∨ o ≠ some D) : some D ≠ o := fun e => by
  rcases h with h | h
  · rw [h] at e; cases e
  · exact h e.symm
theorem PD.put {X Y : World} {B D : Nat} {vb : Nat → Value} {vw : Value} {lb : Nat → List UInt8} {ws : List Chg} {left count : Int} {down : Bool} (h : PD X B D vb vw lb ws left count down) {k : Nat} (hk : k < 4) {v' : Value} {L : List UInt8}
    (hb : But X Y (vb k).ownBlock) (hr : Y.ownsRow B 5 1 v' L.length (valsB L)) (hn : newB X (vb k) v') (hL : L.length ≤ 67108864) :
    PD (Y.setCell ⟨D, k, none⟩ v') B D (updF vb k v') vw (updF lb k L) ws left count down := by
  have hYD : Y.heap[D]? = some (.cells #[vb 0, vb 1, vb 2, vb 3, vw, .int .i64 left, .int .i64 count, .bool down] 62 (0, 0)) :=
    (hb.block D h.lt (neD' (row_neD h.blk (by decide) (h.rows k hk)))).trans h.blk
  have hset := set_grown Y D k v'
  refine ⟨?_, h.low, ?_, ?_, ?_, ?_, h.oks⟩
  · rw [set_blk hYD]
    rcases (show k = 0 ∨ k = 1 ∨ k = 2 ∨ k = 3 by omega) with rfl | rfl | rfl | rfl <;> rfl
  · intro i hi
    by_cases e : i = k
    · subst e
      rw [updF_at, updF_at]
      exact World.ownsRow.kept hr hset (row_neD hYD (by decide) hr)
    · rw [updF_ne _ _ e, updF_ne _ _ e]
      have hri := World.ownsRow.kept (h.rows i hi) hb (h.dif i k hi hk e)
      exact World.ownsRow.kept hri hset (row_neD hYD (by decide) hri)
  · have hw := World.ownsRow.kept h.wrow hb (by
      rcases (h.rows k hk).2 with ⟨e, _⟩ | ⟨g, cap, cur, e, _, hgg, _⟩
      · rw [e]
        cases hv : vw.ownBlock with
        | none => exact .inl rfl
        | some b => exact .inr (fun h => by cases h)
      · rw [e]
        exact row_neD hgg (by decide) h.wrow)
    exact World.ownsRow.kept hw hset (row_neD hYD (by decide) hw)
  · intro i j hi hj hij
    have fresh : ∀ m, m < 4 → ∀ g, X.heap.size ≤ g → (vb m).ownBlock ≠ some g := fun m hm g hg e => by
      have := (World.ownsRow.lt (h.rows m hm) g e).2
      omega
    by_cases ei : i = k
    · subst ei
      rw [updF_at, updF_ne _ _ (fun e => hij e.symm)]
      rcases hn with e | ⟨g, e, hg⟩
      · rw [e]; exact h.dif i j hi hj hij
      · rw [e]; exact .inr (fun e' => fresh j hj g hg e'.symm)
    · rw [updF_ne _ _ ei]
      by_cases ej : j = k
      · subst ej
        rw [updF_at]
        rcases hn with e | ⟨g, e, hg⟩
        · rw [e]; exact h.dif i j hi hj hij
        · rw [e]; exact .inr (fun e' => fresh i hi g hg e')
      · rw [updF_ne _ _ ej]
        exact h.dif i j hi hj hij
  · intro i hi
    by_cases e : i = k
    · subst e; rw [updF_at]; exact hL
    · rw [updF_ne _ _ e]; exact h.size i hi
theorem but_undrew {X Y : World} {m : Nat} {o : Option Nat} (h : But (X.drewN m) Y o) : But X Y o := ⟨h.os, h.tape, h.output, h.size, h.block⟩
theorem PD.cellk {X : World} {B D : Nat} {vb : Nat → Value} {vw : Value} {lb : Nat → List UInt8} {ws : List Chg} {left count : Int} {down : Bool} (h : PD X B D vb vw lb ws left count down) {k : Nat} (hk : k < 4) : X.cell? ⟨D, k, none⟩ = some (vb k) := by
  obtain ⟨c0, c1, c2, c3, -⟩ := h.cells
  rcases (show k = 0 ∨ k = 1 ∨ k = 2 ∨ k = 3 by omega) with rfl | rfl | rfl | rfl <;> assumption
theorem last_pack {X w' : World} {o : Obj} {B D m : Nat} {vb : Nat → Value} {vw : Value} {lb : Nat → List UInt8} {ws : List Chg} {left count : Int} {down : Bool} {k : Nat} {v' : Value} {L : List UInt8} (h : PD (X.alloc o) B D vb vw lb ws left count down) (hk : k < 4)
    (hr : w'.ownsRow B 5 1 v' L.length (valsB L)) (hb : But ((X.alloc o).drewN m) w' (vb k).ownBlock) (hn : newB ((X.alloc o).drewN m) (vb k) v') (hL : L.length ≤ 67108864) (hB : B ≤ X.heap.size) :
    PD (w'.setCell ⟨D, k, none⟩ v') B D (updF vb k v') vw (updF lb k L) ws left count down ∧ w'.cell? ⟨D, k, none⟩ = some (vb k) ∧ w'.frozen? ⟨D, k, none⟩ = false ∧ BelT tyP B X w' := by
  have hb' := but_undrew hb
  have hne := neD' (row_neD h.blk (by decide) (h.rows k hk))
  refine ⟨PD.put h hk hb' hr hn hL, hb'.cell (h.cellk hk) hne, (World.frozen?_of_block (hb'.block D h.lt hne)).trans (h.unfrozen k), ?_⟩
  exact ((BelT.refl _ _ _).alloc hB o).trans (BelT.row hb' (by simp; omega) (row_nf (by decide) (h.rows k hk)))
/- all blocks but two are as they were -/
structure But2 (w X : World) (o o' : Option Nat) : Prop where
  os : X.os = w.os
  tape : X.tape = w.tape
  output : X.output = w.output
  size : w.heap.size ≤ X.heap.size
  block : ∀ b, b < w.heap.size → some b ≠ o → some b ≠ o' → X.heap[b]? = w.heap[b]?
theorem But2.set {w Y : World} {D k : Nat} {o : Option Nat} {v : Value} {ob : Obj} (h : But (w.alloc ob) Y o) : But2 w (Y.setCell ⟨D, k, none⟩ v) (some D) o :=
  ⟨h.os, h.tape, h.output, by have := h.size; simp at this ⊢; omega, fun b hb h1 h2 => by
    rw [Below.heap_setCell _ _ _ b (fun e => h1 (by rw [e])), h.block b (by simp; omega) h2]
    exact heap_alloc_old w ob hb⟩
set_option maxRecDepth 20000 in
set_option maxHeartbeats 2000000 in
theorem clast0 (p : Nat) (t : ByteArray) (c : Bool) (hp : p + t.size ≤ 67108864) (hc : c = true → t.size = 0) (X : World) (B D : Nat) (vb : Nat → Value) (vw : Value) (lb : Nat → List UInt8) (ws : List Chg) (left count : Int) (down : Bool) (h : PD X B D vb vw lb ws left count down) (hB : B ≤ X.heap.size) :
    Calls Try.prog 50 #[(.pointer (some ⟨D, 0, none⟩)), (.agg #[.int .i64 0, .int .i64 (p : Int), .string t, .bool c])] X fun e w' => e = .returned (.tuple #[]) ∧ (∃ v', PD w' B D (updF vb 1 v') vw (updF lb 1 (onL p t c (lb 1))) ws left count down) ∧ BelT tyP B X w' ∧ But2 X w' (some D) (vb 1).ownBlock := by
  obtain ⟨c0, c1, c2, c3, c4, c5, c6, c7⟩ := h.cells
  have hD := h.lt
  have H : Hid (PD X B D vb vw lb ws left count down) := h
  have HC : Hid (c = true → t.size = 0) := hc
  clear h hc
  go_enter Try.func50, Try.ntmps50
  go_wp2_with fail
  go_quiet (fail)
  go_wp2_with fail
  have H1 : Hid (PD (X.alloc (.cells #[.int .i64 0, .int .i64 p, .string t, .bool c] 92)) B D vb vw lb ws left count down) := H.out.below ((Below.refl _ _).alloc (Nat.le_refl _) _)
  have hLn : (onL p t c (lb 1)).length ≤ 67108864 := by
    rw [onL_len]
    have := H.out.size 1 (by decide)
    split <;> omega
  go_region_with (go_at_call 74; refine (cdone 0 p t c B (vb 1) (lb 1) _ ?h1 ?h2 hp ?h4 HC.out).mono ?_; (case h1 => exact H1.out.rows 1 (by decide)); (case h2 => simp; omega); (case h4 => exact H.out.size 1 (by decide)); rintro e w' ⟨v', rfl, hr, hb, hn⟩; obtain ⟨a', cap', rfl, _⟩ := owns_sliceB hr; have HH := last_pack H1.out (show 1 < 4 by decide) hr hb hn hLn hB; have HP : Hid (PD (w'.setCell ⟨D, 1, none⟩ (.slice a' (onL p t c (lb 1)).length cap')) B D (updF vb 1 (.slice a' (onL p t c (lb 1)).length cap')) vw (updF lb 1 (onL p t c (lb 1))) ws left count down) := HH.1; have e1 : w'.cell? ⟨D, 1, none⟩ = some (vb 1) := HH.2.1; have fz := HH.2.2.1; have HBW : Hid (BelT tyP B X w') := HH.2.2.2; have HB2 : Hid (But2 X (w'.setCell ⟨D, 1, none⟩ (.slice a' (onL p t c (lb 1)).length cap')) (some D) (vb 1).ownBlock) := But2.set (but_undrew hb); clear HH hr hb hn)
  all_goals
    go_wp2
    go_end0
    exact ⟨rfl, ⟨_, HP.out⟩, HBW.out.setCell H.out.low (fun _ => H.out.nf) _, HB2.out⟩
set_option maxRecDepth 20000 in
set_option maxHeartbeats 2000000 in
theorem clast1 (p : Nat) (t : ByteArray) (c : Bool) (hp : p + t.size ≤ 67108864) (hc : c = true → t.size = 0) (X : World) (B D : Nat) (vb : Nat → Value) (vw : Value) (lb : Nat → List UInt8) (ws : List Chg) (left count : Int) (down : Bool) (h : PD X B D vb vw lb ws left count down) (hB : B ≤ X.heap.size) :
    Calls Try.prog 50 #[(.pointer (some ⟨D, 0, none⟩)), (.agg #[.int .i64 1, .int .i64 (p : Int), .string t, .bool c])] X fun e w' => e = .returned (.tuple #[]) ∧ (∃ v', PD w' B D (updF vb 3 v') vw (updF lb 3 (onL p t c (lb 3))) ws left count down) ∧ BelT tyP B X w' ∧ But2 X w' (some D) (vb 3).ownBlock := by
  obtain ⟨c0, c1, c2, c3, c4, c5, c6, c7⟩ := h.cells
  have hD := h.lt
  have H : Hid (PD X B D vb vw lb ws left count down) := h
  have HC : Hid (c = true → t.size = 0) := hc
  clear h hc
  go_enter Try.func50, Try.ntmps50
  go_wp2_with fail
  go_quiet (fail)
  go_wp2_with fail
  have H1 : Hid (PD (X.alloc (.cells #[.int .i64 1, .int .i64 p, .string t, .bool c] 92)) B D vb vw lb ws left count down) := H.out.below ((Below.refl _ _).alloc (Nat.le_refl _) _)
  have hLn : (onL p t c (lb 3)).length ≤ 67108864 := by
    rw [onL_len]
    have := H.out.size 3 (by decide)
    split <;> omega
  go_region_with (go_at_call 74; refine (cdone 1 p t c B (vb 3) (lb 3) _ ?h1 ?h2 hp ?h4 HC.out).mono ?_; (case h1 => exact H1.out.rows 3 (by decide)); (case h2 => simp; omega); (case h4 => exact H.out.size 3 (by decide)); rintro e w' ⟨v', rfl, hr, hb, hn⟩; obtain ⟨a', cap', rfl, _⟩ := owns_sliceB hr; have HH := last_pack H1.out (show 3 < 4 by decide) hr hb hn hLn hB; have HP : Hid (PD (w'.setCell ⟨D, 3, none⟩ (.slice a' (onL p t c (lb 3)).length cap')) B D (updF vb 3 (.slice a' (onL p t c (lb 3)).length cap')) vw (updF lb 3 (onL p t c (lb 3))) ws left count down) := HH.1; have e1 : w'.cell? ⟨D, 3, none⟩ = some (vb 3) := HH.2.1; have fz := HH.2.2.1; have HBW : Hid (BelT tyP B X w') := HH.2.2.2; have HB2 : Hid (But2 X (w'.setCell ⟨D, 3, none⟩ (.slice a' (onL p t c (lb 3)).length cap')) (some D) (vb 3).ownBlock) := But2.set (but_undrew hb); clear HH hr hb hn)
  all_goals
    go_wp2
    go_end0
    exact ⟨rfl, ⟨_, HP.out⟩, HBW.out.setCell H.out.low (fun _ => H.out.nf) _, HB2.out⟩
end Go.Proofs.Ytfjkockcgddgbaa
