/- A page's bytes in memory; the contracts of putTwo and putFour. -/
import Derived.Test.YthimnpobcfkghaaPage1
import Derived.RegionTactic
import Derived.OwnWalk
import Derived.Lib.BufferWrite
namespace Go.Proofs.Ythimnpobcfkghaa
open Go.RowKit
attribute [local go_sem ↓] Go.wp_at_zero Go.wp_at_succ

def cellsB (l : List UInt8) : List Value := l.map fun b => .int .u8 (b.toNat : Int)
/- 1,024 bytes in a block -/
def Pg (W : World) (g : Nat) (l : List UInt8) : Prop := l.length = 1024 ∧ W.heap[g]? = some (.cells (cellsB l).toArray 5 (0, 0))
theorem Pg.lt {W : World} {g : Nat} {l : List UInt8} (h : Pg W g l) : g < W.heap.size := (Array.getElem?_eq_some_iff.1 h.2).1
theorem Pg.cell {W : World} {g : Nat} {l : List UInt8} (h : Pg W g l) {i : Nat} (hi : i < 1024) : ∃ x, W.cell? ⟨g, i, none⟩ = some (.int .u8 x) := by
  refine ⟨((l[i]'(by rw [h.1]; exact hi)).toNat : Int), ?_⟩
  have : i < l.length := by rw [h.1]; exact hi
  simp [World.cell?, h.2, cellsB, this]
theorem Pg.frozen {W : World} {g : Nat} {l : List UInt8} (h : Pg W g l) (i : Nat) : W.frozen? ⟨g, i, none⟩ = false := by simp [World.frozen?, h.2]
theorem Pg.set {W : World} {g : Nat} {l : List UInt8} (h : Pg W g l) (i : Nat) (x : Nat) {v : Value} (hv : v = .int .u8 ((x % 256 : Nat) : Int)) : Pg (W.setCell ⟨g, i, none⟩ v) g (l.set i (UInt8.ofNat x)) := by
  subst hv
  refine ⟨by rw [List.length_set]; exact h.1, ?_⟩
  obtain ⟨hlt, hk⟩ := Array.getElem?_eq_some_iff.1 h.2
  show (W.heap.modify g _)[g]? = _
  rw [Array.getElem?_eq_getElem (by rw [Array.size_modify]; exact hlt), Array.getElem_modify_self, hk]
  have e : cellsB (l.set i (UInt8.ofNat x)) = (cellsB l).set i (.int .u8 ((x % 256 : Nat) : Int)) := by
    unfold cellsB
    rw [List.map_set]
    simp
  rw [e]
  simp
theorem Pg.kept {W W' : World} {row : Option Nat} {g : Nat} {l : List UInt8} (h : Pg W g l) (hg : W.grownBy W' row) (hne : some g ≠ row) : Pg W' g l := ⟨h.1, (hg.block g h.lt hne).trans h.2⟩
theorem Pg.below {W W' : World} {g : Nat} {l : List UInt8} (h : Pg W g l) (hb : Below W.heap.size W W') : Pg W' g l := ⟨h.1, (hb.block g h.lt).trans h.2⟩
theorem Pg.drewN {W : World} {g : Nat} {l : List UInt8} (h : Pg W g l) (n : Nat) : Pg (W.drewN n) g l := h.below (below_drewN (Below.refl _ _) n)
theorem Pg.drew {W : World} {g : Nat} {l : List UInt8} (h : Pg W g l) : Pg W.drew g l := h

def put2 (l : List UInt8) (a n : Nat) : List UInt8 := (l.set a (UInt8.ofNat (n / 256))).set (a + 1) (UInt8.ofNat n)
def put4 (l : List UInt8) (a n : Nat) : List UInt8 := put2 (put2 l a (n / 65536)) (a + 2) n

set_option maxHeartbeats 600000 in
theorem cputTwo (g k n : Nat) (l : List UInt8) (W : World) (h : Pg W g l) (hk : k + 1 < 1024)  :
    Calls Try.prog 53 #[.slice (some ⟨g, 0, none⟩) 1024 1024, .int .i64 k, .int .i64 n] W fun e W' => e = .returned (.tuple #[]) ∧ Pg W' g (put2 l k n) ∧ ∀ B, B ≤ g → Below B W W' := by
  have HP : Hid (Pg W g l) := h
  obtain ⟨x0, c0⟩ := h.cell (show k < 1024 by omega)
  obtain ⟨x1, c1⟩ := h.cell hk
  have f0 := h.frozen k
  have f1 := h.frozen (k + 1)
  clear h
  have h1 : (k : Int) < 1024 := by omega
  have h2 : (k : Int) + 1 < 1024 := by omega
  go_enter Try.func53, Try.ntmps53
  go_wp2
  go_end0
  refine ⟨rfl, (HP.out.set k (n / 256) (by congr 1)).set (k + 1) n (by congr 1), fun B hB => ((Below.refl _ _).setCell hB _).setCell hB _⟩

set_option maxHeartbeats 600000 in
theorem cputFour (g k n : Nat) (l : List UInt8) (W : World) (h : Pg W g l) (hk : k + 3 < 1024)  :
    Calls Try.prog 54 #[.slice (some ⟨g, 0, none⟩) 1024 1024, .int .i64 k, .int .i64 n] W fun e W' => e = .returned (.tuple #[]) ∧ Pg W' g (put4 l k n) ∧ ∀ B, B ≤ g → Below B W W' := by
  have HP : Hid (Pg W g l) := h
  clear h
  have e1 : Hid ((n : Int) / 65536 = ((n / 65536 : Nat) : Int)) := (by omega : (n : Int) / 65536 = ((n / 65536 : Nat) : Int))
  have e2 : Hid ((k : Int) + 2 = ((k + 2 : Nat) : Int)) := (by omega : (k : Int) + 2 = ((k + 2 : Nat) : Int))
  go_enter Try.func54, Try.ntmps54
  go_wp2_with fail
  rw [e1.out]
  refine (cputTwo g k (n / 65536) l W HP.out (by omega)).mono ?_
  rintro e W1 ⟨rfl, P1, B1⟩
  go_wp2_with fail
  rw [e2.out]
  refine (cputTwo g (k + 2) n _ W1 P1 (by omega)).mono ?_
  rintro e W2 ⟨rfl, P2, B2⟩
  go_wp2
  go_end0
  exact ⟨rfl, P2, fun B hB => (B1 B hB).trans (B2 B hB)⟩
end Go.Proofs.Ythimnpobcfkghaa
