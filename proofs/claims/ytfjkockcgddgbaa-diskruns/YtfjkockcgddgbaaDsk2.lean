/- package disk: a disk in memory; asked, begin, fate -/
import Derived.Test.YtfjkockcgddgbaaDsk1
namespace Go.Proofs.Ytfjkockcgddgbaa
open Go.RowKit Go.Lib
attribute [local go_sem ↓] Go.wp_at_zero Go.wp_at_succ
/- a change: file, place, text, cut -/
structure Chg where
  f : Nat
  p : Nat
  t : ByteArray
  c : Bool
def chgCells (x : Chg) : List Value := [.int .i64 x.f, .int .i64 x.p, .string x.t, .bool x.c]
def chgsCells (l : List Chg) : List Value := l.flatMap chgCells
/- what a change of a disk is: of file 0 or 1, within a file's bounds; a cut bears no text -/
def okC (x : Chg) : Prop := x.f < 2 ∧ x.p + x.t.size ≤ 67108864 ∧ (x.c = true → x.t.size = 0)
/- the disk at block D: bytes seen and lasting of both files (in the order of the cells), changes that wait -/
structure PD (X : World) (B D : Nat) (vb : Nat → Value) (vw : Value) (lb : Nat → List UInt8) (ws : List Chg) (left count : Int) (down : Bool) : Prop where
  blk : X.heap[D]? = some (.cells #[vb 0, vb 1, vb 2, vb 3, vw, .int .i64 left, .int .i64 count, .bool down] 62 (0, 0))
  low : B ≤ D
  rows : ∀ i, i < 4 → X.ownsRow B 5 1 (vb i) (lb i).length (valsB (lb i))
  wrow : X.ownsRow B 92 4 vw ws.length (chgsCells ws)
  dif : ∀ i j, i < 4 → j < 4 → ¬ i = j → (vb i).ownBlock = none ∨ (vb i).ownBlock ≠ (vb j).ownBlock
  size : ∀ i, i < 4 → (lb i).length ≤ 67108864
  oks : ∀ x ∈ ws, okC x
theorem PD.lt {X : World} {B D : Nat} {vb : Nat → Value} {vw : Value} {lb : Nat → List UInt8} {ws : List Chg} {left count : Int} {down : Bool} (h : PD X B D vb vw lb ws left count down) : D < X.heap.size := (Array.getElem?_eq_some_iff.1 h.blk).1
theorem PD.below {X Y : World} {B D : Nat} {vb : Nat → Value} {vw : Value} {lb : Nat → List UInt8} {ws : List Chg} {left count : Int} {down : Bool} (h : PD X B D vb vw lb ws left count down) (hb : Below X.heap.size X Y) : PD Y B D vb vw lb ws left count down :=
  ⟨(hb.block D h.lt).trans h.blk, h.low, fun i hi => row_below (h.rows i hi) hb, row_below h.wrow hb, h.dif, h.size, h.oks⟩
theorem PD.cells {X : World} {B D : Nat} {vb : Nat → Value} {vw : Value} {lb : Nat → List UInt8} {ws : List Chg} {left count : Int} {down : Bool} (h : PD X B D vb vw lb ws left count down) :
    X.cell? ⟨D, 0, none⟩ = some (vb 0) ∧ X.cell? ⟨D, 1, none⟩ = some (vb 1) ∧ X.cell? ⟨D, 2, none⟩ = some (vb 2) ∧ X.cell? ⟨D, 3, none⟩ = some (vb 3) ∧ X.cell? ⟨D, 4, none⟩ = some vw ∧ X.cell? ⟨D, 5, none⟩ = some (.int .i64 left) ∧ X.cell? ⟨D, 6, none⟩ = some (.int .i64 count) ∧ X.cell? ⟨D, 7, none⟩ = some (.bool down) := by
  refine ⟨?_, ?_, ?_, ?_, ?_, ?_, ?_, ?_⟩ <;> simp [World.cell?, h.blk]
theorem PD.unfrozen {X : World} {B D : Nat} {vb : Nat → Value} {vw : Value} {lb : Nat → List UInt8} {ws : List Chg} {left count : Int} {down : Bool} (h : PD X B D vb vw lb ws left count down) (k : Nat) : X.frozen? ⟨D, k, none⟩ = false := by simp [World.frozen?, h.blk]
/- is an operation asked for rightly? -/
def fitsD (f at' n : Int) : Bool := decide (0 ≤ f ∧ f ≤ 1 ∧ 0 ≤ at' ∧ 0 ≤ n ∧ at' ≤ 67108864 ∧ n ≤ 67108864 - at')
def askE (f at' n : Int) (down : Bool) : Int := if fitsD f at' n then (if down then 2 else 0) else 1
theorem PD.other {X Y : World} {B D : Nat} {vb : Nat → Value} {vw : Value} {lb : Nat → List UInt8} {ws : List Chg} {left count left' count' : Int} {down down' : Bool} (h : PD X B D vb vw lb ws left count down)
    (hg : X.grownBy Y (some D)) (hb : Y.heap[D]? = some (.cells #[vb 0, vb 1, vb 2, vb 3, vw, .int .i64 left', .int .i64 count', .bool down'] 62 (0, 0))) : PD Y B D vb vw lb ws left' count' down' := by
  have hne : ∀ (e : TypeId) (size : Nat) (v : Value) (n : Nat) (xs : List Value), ¬ e = 62 → X.ownsRow B e size v n xs → v.ownBlock = none ∨ v.ownBlock ≠ some D := fun e size v n xs he ho => by
    rcases ho.2 with ⟨rfl, _⟩ | ⟨g, cap, cur, rfl, _, hgg, _⟩
    · exact .inl rfl
    · refine .inr fun hx => ?_
      injection hx with hx
      have hx' : g = D := hx
      rw [hx', h.blk] at hgg
      injection hgg with hgg
      injection hgg with _ h2 _
      exact he h2.symm
  exact ⟨hb, h.low, fun i hi => World.ownsRow.kept (h.rows i hi) hg (hne _ _ _ _ _ (by decide) (h.rows i hi)), World.ownsRow.kept h.wrow hg (hne _ _ _ _ _ (by decide) h.wrow), h.dif, h.size, h.oks⟩
set_option maxHeartbeats 1000000 in
theorem casked (f at' n : Int) (X : World) (B D : Nat) (vb : Nat → Value) (vw : Value) (lb : Nat → List UInt8) (ws : List Chg) (left count : Int) (down : Bool) (h : PD X B D vb vw lb ws left count down) :
    Calls Try.prog 52 #[(.pointer (some ⟨D, 0, none⟩)), .int .i64 f, .int .i64 at', .int .i64 n] X fun e w' => e = .returned (.int .i64 (askE f at' n down)) ∧ w' = X := by
  obtain ⟨-, -, -, -, -, -, -, c7⟩ := h.cells
  clear h
  by_cases h1 : f < 0
  · have e : askE f at' n down = 1 := by unfold askE fitsD; rw [if_neg (by simp; omega)]
    rw [e]; clear e
    go_enter Try.func52, Try.ntmps52; go_wp2; go_ret; exact ⟨rfl, rfl⟩
  by_cases h2 : 2 ≤ f
  · have e : askE f at' n down = 1 := by unfold askE fitsD; rw [if_neg (by simp; omega)]
    rw [e]; clear e
    go_enter Try.func52, Try.ntmps52; go_wp2; go_ret; exact ⟨rfl, rfl⟩
  by_cases h3 : at' < 0
  · have e : askE f at' n down = 1 := by unfold askE fitsD; rw [if_neg (by simp; omega)]
    rw [e]; clear e
    go_enter Try.func52, Try.ntmps52; go_wp2; go_ret; exact ⟨rfl, rfl⟩
  by_cases h4 : n < 0
  · have e : askE f at' n down = 1 := by unfold askE fitsD; rw [if_neg (by simp; omega)]
    rw [e]; clear e
    go_enter Try.func52, Try.ntmps52; go_wp2; go_ret; exact ⟨rfl, rfl⟩
  by_cases h5 : 67108864 < at'
  · have e : askE f at' n down = 1 := by unfold askE fitsD; rw [if_neg (by simp; omega)]
    rw [e]; clear e
    go_enter Try.func52, Try.ntmps52; go_wp2; go_ret; exact ⟨rfl, rfl⟩
  by_cases h6 : 67108864 - at' < n
  · have e : askE f at' n down = 1 := by unfold askE fitsD; rw [if_neg (by simp; omega)]
    rw [e]; clear e
    go_enter Try.func52, Try.ntmps52; go_wp2; go_ret; exact ⟨rfl, rfl⟩
  have e : askE f at' n down = if down then 2 else 0 := by unfold askE fitsD; rw [if_pos (by simp; omega)]
  rw [e]; clear e
  cases down
  · go_enter Try.func52, Try.ntmps52; go_wp2; go_ret; exact ⟨rfl, rfl⟩
  · go_enter Try.func52, Try.ntmps52; go_wp2; go_ret; exact ⟨rfl, rfl⟩
theorem set_blk {X : World} {D k : Nat} {cur : Array Value} {e : TypeId} {fz : Nat × Nat} {v : Value} (h : X.heap[D]? = some (.cells cur e fz)) : (X.setCell ⟨D, k, none⟩ v).heap[D]? = some (.cells (cur.setIfInBounds k v) e fz) := by
  obtain ⟨hlt, hk⟩ := Array.getElem?_eq_some_iff.1 h
  show (X.heap.modify D _)[D]? = _
  rw [Array.getElem?_eq_getElem (by rw [Array.size_modify]; exact hlt), Array.getElem_modify_self, hk]
  rfl
theorem set_grown (X : World) (D k : Nat) (v : Value) : X.grownBy (X.setCell ⟨D, k, none⟩ v) (some D) := But.set (But.refl X (some D)) k v
def begPost (f at' n : Int) (X : World) (B D : Nat) (vb : Nat → Value) (vw : Value) (lb : Nat → List UInt8) (ws : List Chg) (left count : Int) (down : Bool) (e : Ending) (w' : World) : Prop :=
  (¬ askE f at' n down = 0 ∧ e = .returned (.int .i64 (askE f at' n down)) ∧ w' = X) ∨
  (askE f at' n down = 0 ∧ left = 0 ∧ e = .returned (.int .i64 2) ∧ PD w' B D vb vw lb ws left count true ∧ But X w' (some D)) ∨
  (askE f at' n down = 0 ∧ ¬ left = 0 ∧ e = .returned (.int .i64 0) ∧ PD w' B D vb vw lb ws (if 0 < left then left - 1 else left) (count + 1) down ∧ But X w' (some D))
set_option maxHeartbeats 1000000 in
theorem cbegin (f at' n : Int) (X : World) (B D : Nat) (vb : Nat → Value) (vw : Value) (lb : Nat → List UInt8) (ws : List Chg) (left count : Int) (down : Bool) (h : PD X B D vb vw lb ws left count down) (hl : -9223372036854775808 ≤ left ∧ left ≤ 9223372036854775807) (hc : 0 ≤ count ∧ count ≤ 4611686018427387904) :
    Calls Try.prog 54 #[(.pointer (some ⟨D, 0, none⟩)), .int .i64 f, .int .i64 at', .int .i64 n] X (begPost f at' n X B D vb vw lb ws left count down) := by
  obtain ⟨-, -, -, -, -, c5, c6, c7⟩ := h.cells
  have f5 := h.unfrozen 5
  have f6 := h.unfrozen 6
  have f7 := h.unfrozen 7
  have H : Hid (PD X B D vb vw lb ws left count down) := h
  clear h
  by_cases ha : askE f at' n down = 0
  · have HA : Hid (askE f at' n down = 0) := ha
    clear ha
    by_cases h0 : left = 0
    · subst h0
      have HP : Hid (PD (X.setCell ⟨D, 7, none⟩ (.bool true)) B D vb vw lb ws 0 count true) := PD.other H.out (set_grown X D 7 _) (by rw [set_blk H.out.blk]; rfl)
      go_enter Try.func54, Try.ntmps54
      go_wp2_with fail
      refine (casked f at' n X B D vb vw lb ws 0 count down H.out).mono ?_
      rintro e w' ⟨rfl, rfl⟩
      rw [HA.out]
      go_wp2_with fail
      go_ret
      exact .inr (.inl ⟨HA.out, rfl, rfl, HP.out, set_grown _ D 7 _⟩)
    · by_cases h1 : 0 < left
      · have HP : Hid (PD ((X.setCell ⟨D, 5, none⟩ (.int .i64 (left - 1))).setCell ⟨D, 6, none⟩ (.int .i64 (count + 1))) B D vb vw lb ws (left - 1) (count + 1) down) := PD.other H.out ((But.refl X (some D)).set 5 _ |>.set 6 _) (by rw [set_blk (set_blk H.out.blk)]; rfl)
        go_enter Try.func54, Try.ntmps54
        go_wp2_with fail
        refine (casked f at' n X B D vb vw lb ws left count down H.out).mono ?_
        rintro e w' ⟨rfl, rfl⟩
        rw [HA.out]
        go_wp2_with fail
        go_ret
        exact .inr (.inr ⟨HA.out, h0, rfl, by rw [if_pos h1]; exact HP.out, (But.refl _ (some D)).set 5 _ |>.set 6 _⟩)
      · have HP : Hid (PD (X.setCell ⟨D, 6, none⟩ (.int .i64 (count + 1))) B D vb vw lb ws left (count + 1) down) := PD.other H.out (set_grown X D 6 _) (by rw [set_blk H.out.blk]; rfl)
        go_enter Try.func54, Try.ntmps54
        go_wp2_with fail
        refine (casked f at' n X B D vb vw lb ws left count down H.out).mono ?_
        rintro e w' ⟨rfl, rfl⟩
        rw [HA.out]
        go_wp2_with fail
        go_ret
        exact .inr (.inr ⟨HA.out, h0, rfl, by rw [if_neg (show ¬ 0 < left by omega)]; exact HP.out, set_grown _ D 6 _⟩)
  · go_enter Try.func54, Try.ntmps54
    go_wp2_with fail
    refine (casked f at' n X B D vb vw lb ws left count down H.out).mono ?_
    rintro e w' ⟨rfl, rfl⟩
    go_wp2_with fail
    go_ret
    exact .inl ⟨ha, rfl, rfl⟩
/- below block B, and all blocks whose cells are of none of the types T: as they were -/
def farT (T : TypeId → Bool) (w : World) (b : Nat) : Prop := ∀ cur e fz, w.heap[b]? = some (.cells cur e fz) → T e = false
structure BelT (T : TypeId → Bool) (B : Nat) (w w' : World) : Prop extends Below B w w' where
  far : ∀ b, b < w.heap.size → farT T w b → w'.heap[b]? = w.heap[b]?
theorem farT.of {T : TypeId → Bool} {w w' : World} {b : Nat} (h : farT T w b) (e : w'.heap[b]? = w.heap[b]?) : farT T w' b := fun cur t fz hh => h cur t fz (e ▸ hh)
theorem BelT.refl (T : TypeId → Bool) (B : Nat) (w : World) : BelT T B w w := ⟨Below.refl _ _, fun _ _ _ => rfl⟩
theorem BelT.trans {T : TypeId → Bool} {B : Nat} {w X Y : World} (h : BelT T B w X) (k : BelT T B X Y) : BelT T B w Y :=
  ⟨h.toBelow.trans k.toBelow, fun b hb hf => (k.far b (Nat.lt_of_lt_of_le hb h.size) (hf.of (h.far b hb hf))).trans (h.far b hb hf)⟩
theorem BelT.same {T : TypeId → Bool} {B : Nat} {w X : World} (h1 : X.os = w.os) (h2 : X.tape = w.tape) (h3 : X.output = w.output) (h4 : X.heap = w.heap) : BelT T B w X :=
  ⟨⟨h1, h2, h3, by rw [h4]; exact Nat.le_refl _, fun b _ => by rw [h4]⟩, fun b _ _ => by rw [h4]⟩
theorem BelT.alloc {T : TypeId → Bool} {B : Nat} {w X : World} (h : BelT T B w X) (hB : B ≤ X.heap.size) (o : Obj) : BelT T B w (X.alloc o) :=
  ⟨h.toBelow.alloc hB o, fun b hb hf => (heap_alloc_old X o (Nat.lt_of_lt_of_le hb h.size)).trans (h.far b hb hf)⟩
theorem BelT.setCell {T : TypeId → Bool} {B : Nat} {w X : World} (h : BelT T B w X) {D k : Nat} (hD : B ≤ D) (ht : D < w.heap.size → ¬ farT T w D) (v : Value) : BelT T B w (X.setCell ⟨D, k, none⟩ v) :=
  ⟨h.toBelow.setCell hD _, fun b hb hf => by
    rw [Below.heap_setCell _ _ _ b (fun e => by have e : b = D := e; subst e; exact ht hb hf)]
    exact h.far b hb hf⟩
theorem BelT.row {T : TypeId → Bool} {B : Nat} {w Y : World} {o : Option Nat} (h : But w Y o) (hB : B ≤ w.heap.size) (ho : ∀ b, o = some b → B ≤ b ∧ ¬ farT T w b) : BelT T B w Y :=
  ⟨⟨h.os, h.tape, h.output, h.size, fun b hl => h.block b (by omega) (fun e => by have := (ho b e.symm).1; omega)⟩, fun b hb hf => h.block b hb (fun e => (ho b e.symm).2 hf)⟩
theorem row_nf {T : TypeId → Bool} {w : World} {B : Nat} {e : TypeId} {size : Nat} {v : Value} {n : Nat} {xs : List Value} (he : T e = true) (h : w.ownsRow B e size v n xs) : ∀ b, v.ownBlock = some b → B ≤ b ∧ ¬ farT T w b := fun b hb => by
  refine ⟨(World.ownsRow.lt h b hb).1, fun hf => ?_⟩
  rcases h.2 with ⟨rfl, _⟩ | ⟨g, cap, cur, rfl, _, hgg, _⟩
  · cases hb
  · injection hb with hb
    have hb : g = b := hb
    subst hb
    have := hf _ _ _ hgg
    rw [he] at this
    cases this
theorem blk_nf {T : TypeId → Bool} {w : World} {D : Nat} {cur : Array Value} {e : TypeId} {fz : Nat × Nat} (he : T e = true) (h : w.heap[D]? = some (.cells cur e fz)) : ¬ farT T w D := fun hf => by
  have := hf _ _ _ h
  rw [he] at this
  cases this
/- the types of a disk's blocks -/
def tyP (e : TypeId) : Bool := decide (e = 62) || decide (e = 92) || decide (e = 5)
theorem PD.nf {X : World} {B D : Nat} {vb : Nat → Value} {vw : Value} {lb : Nat → List UInt8} {ws : List Chg} {left count : Int} {down : Bool} (h : PD X B D vb vw lb ws left count down) : ¬ farT tyP X D := blk_nf (by decide) h.blk
end Go.Proofs.Ytfjkockcgddgbaa
