/- The statement that looks a truth up in a table of three rows, whatever its order is. -/
import Derived.Test.YtdhfpfkhhmdfgaaReg
import Derived.Test.YtdhfpfkhhmdfgaaSmall
import Derived.Test.YtdhfpfkhhmdfgaaRTest
namespace Go.Proofs.Ytdhfpfkhhmdfgaa
open Go.RowKit

/- three numbers in a block -/
def Row3 (X : World) (b : Nat) (f : Nat → Int) : Prop := b < X.heap.size ∧ X.cell? ⟨b, 0, none⟩ = some (.int .i64 (f 0)) ∧ X.cell? ⟨b, 1, none⟩ = some (.int .i64 (f 1)) ∧ X.cell? ⟨b, 2, none⟩ = some (.int .i64 (f 2))
theorem Row3.below {X Y : World} {b : Nat} {f : Nat → Int} (h : Row3 X b f) (hb : Below X.heap.size X Y) : Row3 Y b f :=
  ⟨keepSize hb h.1, keepCell hb h.1 h.2.1, keepCell hb h.1 h.2.2.1, keepCell hb h.1 h.2.2.2⟩
theorem Row3.get {X : World} {b : Nat} {f : Nat → Int} (h : Row3 X b f) {j : Nat} (hj : j < 3) : X.cell? ⟨b, j, none⟩ = some (.int .i64 (f j)) := by
  match j, hj with
  | 0, _ => exact h.2.1
  | 1, _ => exact h.2.2.1
  | 2, _ => exact h.2.2.2
/- three rows in a block -/
def Tab3 (X : World) (b : Nat) (m : Nat → Nat → Int) : Prop := b < X.heap.size ∧ ∀ i, i < 3 → ∃ r, X.cell? ⟨b, i, none⟩ = some (.slice (some ⟨r, 0, none⟩) 3 3) ∧ Row3 X r (m i)
theorem Tab3.below {X Y : World} {b : Nat} {m : Nat → Nat → Int} (h : Tab3 X b m) (hb : Below X.heap.size X Y) : Tab3 Y b m :=
  ⟨keepSize hb h.1, fun i hi => by obtain ⟨r, e, hr⟩ := h.2 i hi; exact ⟨r, keepCell hb h.1 e, hr.below hb⟩⟩

theorem run_row (X : World) (a : Act) (x y z : Int) (d : Nat) (t : TypeId) (p : String) (f : Array Edge) :
    (execOp a.eval { dst := some d, op := .buildSlice 60 3 #[(0, .const (.int .i64 x)), (1, .const (.int .i64 y)), (2, .const (.int .i64 z))], type := t, pos := p, after := f, guard := none }).run Try.prog X = .ok (.value (.slice (some ⟨X.heap.size, 0, none⟩) 3 3)) (X.alloc (.cells #[.int .i64 x, .int .i64 y, .int .i64 z] 3)) := by
  simp only [execOp]
  go_simp
theorem run_tab (X : World) (a : Act) {u v w : Value} (hu : a.eval (.tmp 5) = u) (hv : a.eval (.tmp 6) = v) (hw : a.eval (.tmp 7) = w) (t : TypeId) (p : String) (f : Array Edge) {r0 r1 r2 : Nat} (e0 : u = .slice (some ⟨r0, 0, none⟩) 3 3) (e1 : v = .slice (some ⟨r1, 0, none⟩) 3 3) (e2 : w = .slice (some ⟨r2, 0, none⟩) 3 3) :
    (execOp a.eval { dst := some 8, op := .buildSlice 61 3 #[(0, .tmp 5), (1, .tmp 6), (2, .tmp 7)], type := t, pos := p, after := f, guard := none }).run Try.prog X = .ok (.value (.slice (some ⟨X.heap.size, 0, none⟩) 3 3)) (X.alloc (.cells #[u, v, w] 60)) := by
  subst e0 e1 e2
  have hu' : a.tmps[5]?.getD undef = .slice (some ⟨r0, 0, none⟩) 3 3 := by simpa [Act.eval] using hu
  have hv' : a.tmps[6]?.getD undef = .slice (some ⟨r1, 0, none⟩) 3 3 := by simpa [Act.eval] using hv
  have hw' : a.tmps[7]?.getD undef = .slice (some ⟨r2, 0, none⟩) 3 3 := by simpa [Act.eval] using hw
  clear hu hv hw
  simp only [execOp]
  go_simp
theorem run_loadB {X : World} {A : Nat} {x y : Int} {z : ByteArray} (c0 : X.cell? ⟨A, 0, none⟩ = some (.int .i64 x)) (c1 : X.cell? ⟨A, 1, none⟩ = some (.int .i64 y)) (c2 : X.cell? ⟨A, 2, none⟩ = some (.string z)) (a : Act) (i j : Nat) (t : TypeId) (p : String) (f : Array Edge)
    (he : a.eval (.tmp i) = .pointer (some ⟨A, 0, none⟩)) : (execOp a.eval { dst := some j, op := .load 23 (.tmp i), type := t, pos := p, after := f, guard := none }).run Try.prog X = .ok (.value (.agg #[.int .i64 (x), .int .i64 (y), .string (z)])) X := by
  simp only [execOp, he]
  go_simp
theorem run_storeB {X : World} {A : Nat} {v0 v1 v2 : Value} (c0 : X.cell? ⟨A, 0, none⟩ = some v0) (c1 : X.cell? ⟨A, 1, none⟩ = some v1) (c2 : X.cell? ⟨A, 2, none⟩ = some v2) (f0 : X.frozen? ⟨A, 0, none⟩ = false) (f1 : X.frozen? ⟨A, 1, none⟩ = false) (f2 : X.frozen? ⟨A, 2, none⟩ = false)
    (a : Act) (i j : Nat) (t : TypeId) (p : String) (f : Array Edge) {x y : Int} {z : ByteArray} (he : a.eval (.tmp i) = .pointer (some ⟨A, 0, none⟩)) (hv : a.eval (.tmp j) = (.agg #[.int .i64 (x), .int .i64 (y), .string (z)])) :
    (execOp a.eval { dst := none, op := .store 23 (.tmp i) (.tmp j), type := t, pos := p, after := f, guard := none }).run Try.prog X = .ok .skip (((X.setCell ⟨A, 0, none⟩ (.int .i64 x)).setCell ⟨A, 1, none⟩ (.int .i64 y)).setCell ⟨A, 2, none⟩ (.string z)) := by
  simp only [execOp, he, hv]
  go_simp
theorem run_three (X : World) (a : Act) (i d : Nat) (t : TypeId) (p : String) (f : Array Edge) {u : Value} (hu : a.eval (.tmp i) = u) :
    (execOp a.eval { dst := some d, op := .call { callee := .value (.func 57), args := #[.tmp i], argTypes := #[23] }, type := t, pos := p, after := f, guard := none }).run Try.prog X = .ok (.enter 57 #[u]) X := by
  subst hu
  simp only [execOp]
  go_simp
theorem run_told (X : World) (a : Act) (i d : Nat) (t : TypeId) (p : String) (f : Array Edge) {u : Value} (hu : a.eval (.tmp i) = u) :
    (execOp a.eval { dst := some d, op := .call { callee := .value (.func 56), args := #[.tmp i], argTypes := #[3] }, type := t, pos := p, after := f, guard := none }).run Try.prog X = .ok (.enter 56 #[u]) X := by
  subst hu
  simp only [execOp]
  go_simp
theorem run_at1 (X : World) (a : Act) (b : Nat) (i j d : Nat) (t : TypeId) (p : String) (f : Array Edge) {q : Nat} (hq : q < 3) (hu : a.eval (.tmp i) = .slice (some ⟨b, 0, none⟩) 3 3) (hv : a.eval (.tmp j) = .int .i64 q) :
    (execOp a.eval { dst := some d, op := .indexAddr 61 (.tmp i) (.tmp j), type := t, pos := p, after := f, guard := none }).run Try.prog X = .ok (.value (.pointer (some ⟨b, q, none⟩))) X := by
  simp only [execOp, hu, hv]
  match q, hq with
  | 0, _ => go_simp
  | 1, _ => go_simp
  | 2, _ => go_simp
theorem run_at2 (X : World) (a : Act) (b : Nat) (i j d : Nat) (t : TypeId) (p : String) (f : Array Edge) {q : Nat} (hq : q < 3) (hu : a.eval (.tmp i) = .slice (some ⟨b, 0, none⟩) 3 3) (hv : a.eval (.tmp j) = .int .i64 q) :
    (execOp a.eval { dst := some d, op := .indexAddr 60 (.tmp i) (.tmp j), type := t, pos := p, after := f, guard := none }).run Try.prog X = .ok (.value (.pointer (some ⟨b, q, none⟩))) X := by
  simp only [execOp, hu, hv]
  match q, hq with
  | 0, _ => go_simp
  | 1, _ => go_simp
  | 2, _ => go_simp
theorem run_load1 (X : World) (a : Act) (A : Addr) (T : TypeId) (i d : Nat) (t : TypeId) (p : String) (f : Array Edge) {v : Value} (hT : T = 60 ∨ T = 3) (hc : X.cell? A = some v) (hu : a.eval (.tmp i) = .pointer (some A)) :
    (execOp a.eval { dst := some d, op := .load T (.tmp i), type := t, pos := p, after := f, guard := none }).run Try.prog X = .ok (.value v) X := by
  simp only [execOp, hu]
  rcases hT with rfl | rfl <;> go_simp
end Go.Proofs.Ytdhfpfkhhmdfgaa
