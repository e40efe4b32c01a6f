/- package disk: Sync -/
import Derived.Test.YtfjkockcgddgbaaDsk6
namespace Go.Proofs.Ytfjkockcgddgbaa
open Go.RowKit Go.Lib
attribute [local go_sem ↓] Go.wp_at_zero Go.wp_at_succ
/- what the changes of a file make of bytes; those of the other file -/
def foldF (f : Nat) (ws : List Chg) (l : List UInt8) : List UInt8 := ws.foldl (fun l x => if x.f = f then onL x.p x.t x.c l else l) l
def othF (f : Nat) (ws : List Chg) : List Chg := ws.filter fun x => !(x.f == f)
theorem foldF_snoc (f : Nat) (ws : List Chg) (x : Chg) (l : List UInt8) : foldF f (ws ++ [x]) l = if x.f = f then onL x.p x.t x.c (foldF f ws l) else foldF f ws l := by simp [foldF]
theorem othF_snoc (f : Nat) (ws : List Chg) (x : Chg) : othF f (ws ++ [x]) = if x.f = f then othF f ws else othF f ws ++ [x] := by
  unfold othF
  rw [List.filter_append]
  by_cases h : x.f = f <;> simp [h]
theorem othF_le (f : Nat) (ws : List Chg) : (othF f ws).length ≤ ws.length := List.length_filter_le _ _
theorem chgs_get : ∀ {ws : List Chg} {i j : Nat} (h : i < ws.length), j < 4 → (chgsCells ws)[i * 4 + j]? = (chgCells (ws[i]'h))[j]?
  | x :: ws, 0, j, _, hj => by
    show (chgCells x ++ chgsCells ws)[0 * 4 + j]? = _
    rw [List.getElem?_append_left (by simp [chgCells]; omega), Nat.zero_mul, Nat.zero_add]
    rfl
  | x :: ws, i + 1, j, h, hj => by
    have h' : i < ws.length := by simpa using h
    show (chgCells x ++ chgsCells ws)[(i + 1) * 4 + j]? = _
    rw [List.getElem?_append_right (by simp [chgCells]; omega), show (i + 1) * 4 + j - (chgCells x).length = i * 4 + j by simp [chgCells]; omega, chgs_get h' hj]
    rfl
/- a row of changes stays where bytes and the disk's own cells alone turn -/
theorem row_kept2 {X Y : World} {B B0 D : Nat} {vb : Nat → Value} {vw : Value} {lb : Nat → List UInt8} {ws : List Chg} {left count : Int} {down : Bool} {k n : Nat} {v : Value} {xs : List Value} (h : PD X B D vb vw lb ws left count down) (hk : k < 4) (ho : X.ownsRow B0 92 4 v n xs) (hb : But2 X Y (some D) (vb k).ownBlock) : Y.ownsRow B0 92 4 v n xs :=
  row_keep ho fun g hg => by
    have h1 := row_neD h.blk (by decide) ho
    have h2 : v.ownBlock = none ∨ v.ownBlock ≠ (vb k).ownBlock := by
      rcases (h.rows k hk).2 with ⟨e, _⟩ | ⟨g', cap, cur, e, _, hgg, _⟩
      · rw [e]; exact .inr (fun h => by rw [hg] at h; cases h)
      · rw [e]; exact row_neD hgg (by decide) ho
    refine hb.block g (World.ownsRow.lt ho g hg).2 (fun e => ?_) (fun e => ?_)
    · rcases h1 with h1 | h1
      · rw [hg] at h1; cases h1
      · exact h1 (by rw [hg, e])
    · rcases h2 with h2 | h2
      · rw [hg] at h2; cases h2
      · exact h2 (by rw [hg, e])
theorem none_or {o : Option Nat} {g : Nat} (h : ∀ b, o = some b → ¬ b = g) : o = none ∨ o ≠ some g := by
  cases o with
  | none => exact .inl rfl
  | some b => exact .inr (fun e => by injection e with e; exact h b rfl e)
/- a second row of changes grows: the disk stays -/
theorem PD.keptC {X Y : World} {B B0 D : Nat} {vb : Nat → Value} {vw : Value} {lb : Nat → List UInt8} {ws : List Chg} {left count : Int} {down : Bool} {n : Nat} {v : Value} {xs : List Value} (h : PD X B D vb vw lb ws left count down) (ho : X.ownsRow B0 92 4 v n xs) (hv : ∀ g, vw.ownBlock = some g → g < B0) (hg : X.grownBy Y v.ownBlock) : PD Y B D vb vw lb ws left count down := by
  have far : ∀ (e : TypeId) (size : Nat) (u : Value) (m : Nat) (ys : List Value), ¬ e = 92 → X.ownsRow B e size u m ys → u.ownBlock = none ∨ u.ownBlock ≠ v.ownBlock := fun e size u m ys he hu => by
    rcases ho.2 with ⟨e1, _⟩ | ⟨g', cap, cur, e1, _, hgg, _⟩
    · rw [e1]
      cases hq : u.ownBlock with
      | none => exact .inl rfl
      | some b => exact .inr (fun h => by cases h)
    · rw [e1]; exact row_neD hgg he hu
  refine ⟨(hg.block D h.lt (neD' (row_neD h.blk (by decide) ho))).trans h.blk, h.low, fun i hi => World.ownsRow.kept (h.rows i hi) hg (far _ _ _ _ _ (by decide) (h.rows i hi)), World.ownsRow.kept h.wrow hg ?_, h.dif, h.size, h.oks⟩
  rcases ho.2 with ⟨e1, _⟩ | ⟨g', cap, cur, e1, hlo, _⟩
  · rw [e1]
    cases hq : vw.ownBlock with
    | none => exact .inl rfl
    | some b => exact .inr (fun h => by cases h)
  · rw [e1]
    exact none_or (fun b hb e => by have h1 := hv b hb; have e : b = g' := e; omega)
/- the changes that wait are others -/
theorem PD.setW {X : World} {B B0 D : Nat} {vb : Nat → Value} {vw : Value} {lb : Nat → List UInt8} {ws ws' : List Chg} {left count : Int} {down : Bool} {v : Value} (h : PD X B D vb vw lb ws left count down) (ho : X.ownsRow B0 92 4 v ws'.length (chgsCells ws')) (hB : B ≤ B0) (hok : ∀ x ∈ ws', okC x) : PD (X.setCell ⟨D, 4, none⟩ v) B D vb v lb ws' left count down := by
  have hset := set_grown X D 4 v
  refine ⟨by rw [set_blk h.blk]; rfl, h.low, fun i hi => World.ownsRow.kept (h.rows i hi) hset (row_neD h.blk (by decide) (h.rows i hi)), ?_, h.dif, h.size, hok⟩
  have := World.ownsRow.kept ho hset (row_neD h.blk (by decide) ho)
  refine ⟨this.1, ?_⟩
  rcases this.2 with h' | ⟨g, cap, cur, h1, h2, h3⟩
  · exact .inl h'
  · exact .inr ⟨g, cap, cur, h1, Nat.le_trans hB h2, h3⟩
theorem PD.vwlt {X : World} {B D : Nat} {vb : Nat → Value} {vw : Value} {lb : Nat → List UInt8} {ws : List Chg} {left count : Int} {down : Bool} (h : PD X B D vb vw lb ws left count down) : ∀ g, vw.ownBlock = some g → g < X.heap.size := fun g hg => (World.ownsRow.lt h.wrow g hg).2
end Go.Proofs.Ytfjkockcgddgbaa
