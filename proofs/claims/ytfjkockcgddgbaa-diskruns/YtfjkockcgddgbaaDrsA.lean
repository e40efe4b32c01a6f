/- both disks side by side: what one does leaves the other as it was; the relation that holds along DiskRuns -/
import Derived.Test.YtfjkockcgddgbaaDskX
import Derived.Test.YtfjkockcgddgbaaDskA
namespace Go.Proofs.Ytfjkockcgddgbaa
open Go.RowKit Go.Lib
theorem far_blk {T : TypeId → Bool} {w : World} {D : Nat} {cur : Array Value} {e : TypeId} {fz : Nat × Nat} (he : T e = false) (h : w.heap[D]? = some (.cells cur e fz)) : farT T w D := fun cur' e' fz' hh => by
  rw [h] at hh
  injection hh with hh
  injection hh with _ h2 _
  rw [← h2]; exact he
theorem far_row {T : TypeId → Bool} {w : World} {B : Nat} {e : TypeId} {size : Nat} {v : Value} {n : Nat} {xs : List Value} (he : T e = false) (h : w.ownsRow B e size v n xs) : ∀ g, v.ownBlock = some g → g < w.heap.size ∧ farT T w g := fun g hg => by
  refine ⟨(World.ownsRow.lt h g hg).2, ?_⟩
  rcases h.2 with ⟨rfl, _⟩ | ⟨g', cap, cur, rfl, _, hgg, _⟩
  · cases hg
  · injection hg with hg
    have hg : g' = g := hg
    subst hg
    exact far_blk he hgg
theorem PD.belR {X Y : World} {B D : Nat} {vb : Nat → Value} {vw : Value} {lb : Nat → List UInt8} {ws : List Chg} {left count : Int} {down : Bool} (h : PD X B D vb vw lb ws left count down) (hb : BelT tyR B X Y) : PD Y B D vb vw lb ws left count down :=
  ⟨(hb.far D h.lt (far_blk (by decide) h.blk)).trans h.blk, h.low, fun i hi => row_keep (h.rows i hi) (fun g hg => hb.far g (far_row (T := tyR) (by decide) (h.rows i hi) g hg).1 (far_row (T := tyR) (by decide) (h.rows i hi) g hg).2), row_keep h.wrow (fun g hg => hb.far g (far_row (T := tyR) (by decide) h.wrow g hg).1 (far_row (T := tyR) (by decide) h.wrow g hg).2), h.dif, h.size, h.oks⟩
theorem RD.belP {X Y : World} {B D : Nat} {l0 l1 : ByteArray} {vw : Value} {ws : List Chg} {left count : Int} {down : Bool} (h : RD X B D l0 l1 vw ws left count down) (hb : BelT tyP B X Y) : RD Y B D l0 l1 vw ws left count down :=
  ⟨(hb.far D h.lt (far_blk (by decide) h.blk)).trans h.blk, h.low, row_keep h.wrow (fun g hg => hb.far g (far_row (T := tyP) (by decide) h.wrow g hg).1 (far_row (T := tyP) (by decide) h.wrow g hg).2), h.s0, h.s1, h.oks⟩
/- numbers below 0 are all one -/
def nrm (x : Int) : Int := if x < 0 then -1 else x
theorem nrm_dec (x : Int) : nrm (decL x) = decL (nrm x) := by
  unfold nrm decL
  by_cases h : x < 0
  · rw [if_neg (show ¬ 0 < x by omega), if_pos h]; rfl
  · by_cases h0 : 0 < x
    · rw [if_pos h0, if_neg (show ¬ x - 1 < 0 by omega), if_neg h, if_pos h0]
    · rw [if_neg h0, if_neg h, if_neg h0]
theorem nrm_zero (x : Int) : nrm x = 0 ↔ x = 0 := by unfold nrm; split <;> omega
/- the relation: program's disk at D, document's at R, behind m acts -/
structure DRS (X : World) (B D R m : Nat) (vb : Nat → Value) (vw : Value) (lb : Nat → List UInt8) (ws : List Chg) (left count : Int) (down : Bool) (l0 l1 : ByteArray) (vw' : Value) : Prop where
  pd : PD X B D vb vw lb ws left count down
  rd : RD X B R l0 l1 vw' ws (nrm left) count down
  e1 : lb 1 = ll l0
  e3 : lb 3 = ll l1
  sees : seesD lb l0 l1 ws
  len : ws.length ≤ m
  cnt : 0 ≤ count ∧ count ≤ (m : Int)
  lft : -9223372036854775808 ≤ left ∧ left ≤ 9223372036854775807
def DR (X : World) (B D R m : Nat) : Prop := ∃ vb vw lb ws left count down l0 l1 vw', DRS X B D R m vb vw lb ws left count down l0 l1 vw'
theorem DRS.below {X Y : World} {B D R m : Nat} {vb : Nat → Value} {vw : Value} {lb : Nat → List UInt8} {ws : List Chg} {left count : Int} {down : Bool} {l0 l1 : ByteArray} {vw' : Value} (h : DRS X B D R m vb vw lb ws left count down l0 l1 vw') (hb : Below X.heap.size X Y) : DRS Y B D R m vb vw lb ws left count down l0 l1 vw' :=
  ⟨h.pd.below hb, h.rd.below hb, h.e1, h.e3, h.sees, h.len, h.cnt, h.lft⟩
theorem DR.below {X Y : World} {B D R m : Nat} (h : DR X B D R m) (hb : Below X.heap.size X Y) : DR Y B D R m := by
  obtain ⟨a1, a2, a3, a4, a5, a6, a7, a8, a9, a0, h⟩ := h
  exact ⟨a1, a2, a3, a4, a5, a6, a7, a8, a9, a0, h.below hb⟩
theorem DRS.mono {X : World} {B D R m m' : Nat} {vb : Nat → Value} {vw : Value} {lb : Nat → List UInt8} {ws : List Chg} {left count : Int} {down : Bool} {l0 l1 : ByteArray} {vw' : Value} (h : DRS X B D R m vb vw lb ws left count down l0 l1 vw') (hm : m ≤ m') : DRS X B D R m' vb vw lb ws left count down l0 l1 vw' :=
  ⟨h.pd, h.rd, h.e1, h.e3, h.sees, Nat.le_trans h.len hm, ⟨h.cnt.1, by have := h.cnt.2; omega⟩, h.lft⟩
theorem DRS.low {X : World} {B D R m : Nat} {vb : Nat → Value} {vw : Value} {lb : Nat → List UInt8} {ws : List Chg} {left count : Int} {down : Bool} {l0 l1 : ByteArray} {vw' : Value} (h : DRS X B D R m vb vw lb ws left count down l0 l1 vw') : B ≤ X.heap.size := Nat.le_trans h.pd.low (Nat.le_of_lt h.pd.lt)
theorem nrm_bounds {left : Int} (h : -9223372036854775808 ≤ left ∧ left ≤ 9223372036854775807) : -9223372036854775808 ≤ nrm left ∧ nrm left ≤ 9223372036854775807 := by unfold nrm; split <;> omega
theorem decL_bounds {left : Int} (h : -9223372036854775808 ≤ left ∧ left ≤ 9223372036854775807) : -9223372036854775808 ≤ decL left ∧ decL left ≤ 9223372036854775807 := by unfold decL; split <;> omega
/- foldF and othF -/
theorem foldF_oth_same (f : Nat) (ws : List Chg) (l : List UInt8) : foldF f (othF f ws) l = l := by
  induction ws generalizing l with
  | nil => rfl
  | cons x ws ih =>
    by_cases h : x.f = f
    · rw [show othF f (x :: ws) = othF f ws by simp [othF, h]]; exact ih l
    · rw [show othF f (x :: ws) = x :: othF f ws by simp [othF, h]]
      show foldF f (othF f ws) (if x.f = f then onL x.p x.t x.c l else l) = l
      rw [if_neg h]; exact ih l
theorem foldF_oth_ne {f g : Nat} (hfg : ¬ f = g) (ws : List Chg) (l : List UInt8) : foldF g (othF f ws) l = foldF g ws l := by
  induction ws generalizing l with
  | nil => rfl
  | cons x ws ih =>
    by_cases h : x.f = f
    · rw [show othF f (x :: ws) = othF f ws by simp [othF, h]]
      show foldF g (othF f ws) l = foldF g ws (if x.f = g then onL x.p x.t x.c l else l)
      rw [if_neg (fun e => hfg (h.symm.trans e))]; exact ih l
    · rw [show othF f (x :: ws) = x :: othF f ws by simp [othF, h]]
      exact ih _
/- behind a change that both disks take -/
theorem DR.op {w : World} {B D R m : Nat} {vb' : Nat → Value} {vw2 : Value} {lb : Nat → List UInt8} {ws : List Chg} {left count : Int} {l0 l1 : ByteArray} {vwr : Value} {f p : Nat} {t : ByteArray} {c : Bool} (hf : f < 2)
    (hP : PD w B D vb' vw2 (updF lb (2 * f) (onL p t c (lb (2 * f)))) (ws ++ [⟨f, p, t, c⟩]) (decL left) (count + 1) false) (hR : RD w B R l0 l1 vwr (ws ++ [⟨f, p, t, c⟩]) (decL (nrm left)) (count + 1) false)
    (e1 : lb 1 = ll l0) (e3 : lb 3 = ll l1) (hs : seesD lb l0 l1 ws) (len : ws.length ≤ m) (cnt : 0 ≤ count ∧ count ≤ (m : Int)) (lft : -9223372036854775808 ≤ left ∧ left ≤ 9223372036854775807) : DR w B D R (m + 1) := by
  refine ⟨_, _, _, _, _, _, _, l0, l1, vwr, hP, (nrm_dec left).symm ▸ hR, ?_, ?_, ⟨?_, ?_⟩, by rw [List.length_append]; exact Nat.succ_le_succ len, ⟨by omega, by omega⟩, decL_bounds lft⟩
  · rw [updF_ne _ _ (by omega)]; exact e1
  · rw [updF_ne _ _ (by omega)]; exact e3
  · rw [foldF_snoc]
    by_cases h : f = 0
    · subst h
      rw [if_pos rfl, updF_at, ← hs.1]
    · rw [if_neg h, updF_ne _ _ (by omega), hs.1]
  · rw [foldF_snoc]
    by_cases h : f = 1
    · subst h
      rw [if_pos rfl, updF_at, ← hs.2]
    · rw [if_neg h, updF_ne _ _ (by omega), hs.2]
/- behind a Sync that both do -/
theorem DR.syn {w : World} {B D R m : Nat} {vb' : Nat → Value} {vw2 : Value} {lb : Nat → List UInt8} {ws : List Chg} {left count : Int} {l0 l1 l0' l1' : ByteArray} {vwr : Value} {f : Nat} (hf : f < 2)
    (hP : PD w B D vb' vw2 (updF lb (2 * f + 1) (foldF f ws (lb (2 * f + 1)))) (othF f ws) (decL left) (count + 1) false) (hR : RD w B R l0' l1' vwr (othF f ws) (decL (nrm left)) (count + 1) false)
    (h0 : f = 0 → ll l0' = foldF 0 ws (ll l0) ∧ l1' = l1) (h1 : f = 1 → l0' = l0 ∧ ll l1' = foldF 1 ws (ll l1))
    (e1 : lb 1 = ll l0) (e3 : lb 3 = ll l1) (hs : seesD lb l0 l1 ws) (len : ws.length ≤ m) (cnt : 0 ≤ count ∧ count ≤ (m : Int)) (lft : -9223372036854775808 ≤ left ∧ left ≤ 9223372036854775807) : DR w B D R (m + 1) := by
  refine ⟨_, _, _, _, _, _, _, l0', l1', vwr, hP, (nrm_dec left).symm ▸ hR, ?_, ?_, ⟨?_, ?_⟩, Nat.le_trans (othF_le f ws) (Nat.le_succ_of_le len), ⟨by omega, by omega⟩, decL_bounds lft⟩
  all_goals rcases (show f = 0 ∨ f = 1 by omega) with rfl | rfl
  · rw [show 2 * 0 + 1 = 1 from rfl, updF_at, (h0 rfl).1, e1]
  · rw [updF_ne _ _ (by decide), (h1 rfl).1, e1]
  · rw [updF_ne _ _ (by decide), (h0 rfl).2, e3]
  · rw [show 2 * 1 + 1 = 3 from rfl, updF_at, (h1 rfl).2, e3]
  · rw [updF_ne _ _ (by decide), foldF_oth_same, (h0 rfl).1, hs.1]
  · rw [updF_ne _ _ (by decide), foldF_oth_ne (by decide), (h1 rfl).1, hs.1]
  · rw [updF_ne _ _ (by decide), foldF_oth_ne (by decide), (h0 rfl).2, hs.2]
  · rw [updF_ne _ _ (by decide), foldF_oth_same, (h1 rfl).2, hs.2]
end Go.Proofs.Ytfjkockcgddgbaa
