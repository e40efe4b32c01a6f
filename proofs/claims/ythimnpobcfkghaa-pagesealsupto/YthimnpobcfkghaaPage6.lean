/- Boxes of three cells that hold a page; the statement of page.Open that makes one, whatever its order is. -/
import Derived.Test.YthimnpobcfkghaaPage5
import Derived.Test.YthimnpobcfkghaaReg
namespace Go.Proofs.Ythimnpobcfkghaa
open Go.RowKit

def Bx3 (W : World) (B : Nat) (x y z : Value) : Prop := W.heap[B]? = some (.cells #[x, y, z] 45 (0, 0))
theorem Bx3.lt {W : World} {B : Nat} {x y z : Value} (h : Bx3 W B x y z) : B < W.heap.size := (Array.getElem?_eq_some_iff.1 h).1
theorem Bx3.c0 {W : World} {B : Nat} {x y z : Value} (h : Bx3 W B x y z) : W.cell? ⟨B, 0, none⟩ = some x := by simp [World.cell?, show W.heap[B]? = _ from h]
theorem Bx3.c1 {W : World} {B : Nat} {x y z : Value} (h : Bx3 W B x y z) : W.cell? ⟨B, 1, none⟩ = some y := by simp [World.cell?, show W.heap[B]? = _ from h]
theorem Bx3.c2 {W : World} {B : Nat} {x y z : Value} (h : Bx3 W B x y z) : W.cell? ⟨B, 2, none⟩ = some z := by simp [World.cell?, show W.heap[B]? = _ from h]
theorem Bx3.fz {W : World} {B : Nat} {x y z : Value} (h : Bx3 W B x y z) (o : Nat) : W.frozen? ⟨B, o, none⟩ = false := by simp [World.frozen?, show W.heap[B]? = _ from h]
theorem Bx3.new (W : World) (x y z : Value) : Bx3 (W.alloc (.cells #[x, y, z] 45)) W.heap.size x y z := World.alloc_heap_new W _
theorem Bx3.below {W W' : World} {B : Nat} {x y z : Value} (h : Bx3 W B x y z) (hb : Below W.heap.size W W') : Bx3 W' B x y z := (hb.block B h.lt).trans h
theorem Bx3.put {W : World} {B : Nat} {x y z : Value} (h : Bx3 W B x y z) (x' y' z' : Value) : Bx3 (((W.setCell ⟨B, 0, none⟩ x').setCell ⟨B, 1, none⟩ y').setCell ⟨B, 2, none⟩ z') B x' y' z' := by
  have s0 : ∀ (W : World) (a : Array Value) (i : Nat) (v : Value), W.heap[B]? = some (.cells a 45 (0, 0)) → (W.setCell ⟨B, i, none⟩ v).heap[B]? = some (.cells (a.setIfInBounds i v) 45 (0, 0)) := by
    intro W a i v hk
    exact heap_setCell_same W B i a 45 v hk
  exact s0 _ _ 2 z' (s0 _ _ 1 y' (s0 _ _ 0 x' h))
theorem grown_put (W : World) (B : Nat) (x y z : Value) : W.grownBy (((W.setCell ⟨B, 0, none⟩ x).setCell ⟨B, 1, none⟩ y).setCell ⟨B, 2, none⟩ z) (some B) := by
  refine ⟨rfl, rfl, rfl, by simp, fun k _ hk => ?_⟩
  have hne : ¬ k = B := fun e => hk (by rw [e])
  have f : ∀ (W : World) (i : Nat) (v : Value), (W.setCell ⟨B, i, none⟩ v).heap[k]? = W.heap[k]? := fun W i v => Below.heap_setCell _ _ _ k (fun e => hne (by rw [e]))
  rw [f, f, f]
/- a row of texts is no page -/
theorem own_ne {W : World} {B base k : Nat} {x y z v : Value} {xs : List Value} (h : Bx3 W B x y z) (ho : W.ownsRow base 9 1 v k xs) : v.ownBlock ≠ some B := by
  intro e
  rcases ho.2 with ⟨rfl, _⟩ | ⟨g, cap, cur, rfl, _, hg, _⟩
  · simp [Value.ownBlock] at e
  · simp only [Value.ownBlock, Option.some.injEq] at e
    subst e
    rw [show W.heap[g]? = _ from h] at hg
    simp at hg
theorem own_put {W : World} {B base k : Nat} {x y z v : Value} {xs : List Value} (h : Bx3 W B x y z) (ho : W.ownsRow base 9 1 v k xs) (x' y' z' : Value) : (((W.setCell ⟨B, 0, none⟩ x').setCell ⟨B, 1, none⟩ y').setCell ⟨B, 2, none⟩ z').ownsRow base 9 1 v k xs :=
  ho.kept (grown_put W B x' y' z') (.inr (own_ne h ho))
theorem own_below {W W' : World} {base k : Nat} {v : Value} {xs : List Value} (ho : W.ownsRow base 9 1 v k xs) (hb : Below W.heap.size W W') : W'.ownsRow base 9 1 v k xs := by
  refine ⟨ho.1, ?_⟩
  rcases ho.2 with h | ⟨g, cap, cur, rfl, h1, h2, h3⟩
  · exact .inl h
  · exact .inr ⟨g, cap, cur, rfl, h1, (hb.block g (Array.getElem?_eq_some_iff.1 h2).1).trans h2, h3⟩
def tx (L : List ByteArray) (i : Nat) : ByteArray := L.getD i ⟨#[]⟩
theorem sta_own {W : World} {base k : Nat} {v : Value} {L : List ByteArray} (ho : W.ownsRow base 9 1 v k (valsS L)) : ∃ a cap, v = .slice a k cap ∧ StA W a k (tx L) := by
  have hl : L.length = k := by simpa [valsS] using ho.1
  rcases ho.2 with ⟨rfl, rfl⟩ | ⟨g, cap, cur, rfl, h1, hg, h3⟩
  · exact ⟨none, 0, rfl, .inl rfl⟩
  · refine ⟨_, cap, rfl, .inr ⟨g, 0, rfl, (Array.getElem?_eq_some_iff.1 hg).1, fun i hi => ?_⟩⟩
    rw [Nat.zero_add, ho.cellAt i (by omega)]
    have hi' : i < L.length := by omega
    simp [valsS, tx, List.getD, List.getElem?_eq_getElem hi']

theorem run_mvP (X : World) (a : Act) (i d : Nat) (t : TypeId) (p : String) (f : Array Edge) {v : Value} (he : a.eval (.tmp i) = v) :
    (execOp a.eval { dst := some d, op := .move (.tmp i), type := t, pos := p, after := f, guard := none }).run Try.prog X = .ok (.value v) X := by
  subst he
  simp only [execOp]
  go_simp
theorem run_ix (X : World) (a : Act) (s : ByteArray) (i d : Nat) (t : TypeId) (p : String) (f : Array Edge) (hs : s.size = 1024) (he : a.eval (.tmp i) = .string s) :
    (execOp a.eval { dst := some d, op := .index 9 (.tmp i) (.const (.int .i64 4)), type := t, pos := p, after := f, guard := none }).run Try.prog X = .ok (.value (.int .u8 (byt s 4))) X := by
  have g0 := byt_get (show 4 < s.size by omega)
  have h1 : (4 : Int) < (s.size : Int) := by omega
  simp only [execOp, he]
  go_simp
theorem run_cv (X : World) (a : Act) (s : ByteArray) (i d : Nat) (t : TypeId) (p : String) (f : Array Edge) (he : a.eval (.tmp i) = .int .u8 (byt s 4)) :
    (execOp a.eval { dst := some d, op := .convert 5 3 (.tmp i), type := t, pos := p, after := f, guard := none }).run Try.prog X = .ok (.value (.int .i64 (byt s 4))) X := by
  have g0 := byt_lt s 4
  have e1 : IntKind.i64.wrap ((byt s 4 : Nat) : Int) = ((byt s 4 : Nat) : Int) := wrap_i64n _ (by omega)
  simp only [execOp, he]
  go_simp
theorem run_f4 (X : World) (a : Act) (i d : Nat) (t : TypeId) (p : String) (f : Array Edge) {u : Value} (hu : a.eval (.tmp i) = u) :
    (execOp a.eval { dst := some d, op := .call { callee := .value (.func 56), args := #[.tmp i, .const (.int .i64 8)], argTypes := #[9, 3] }, type := t, pos := p, after := f, guard := none }).run Try.prog X = .ok (.enter 56 #[u, .int .i64 8]) X := by
  subst hu
  simp only [execOp]
  go_simp
theorem run_cl (X : World) (a : Act) (i d : Nat) (t : TypeId) (p : String) (f : Array Edge) {u : Value} (hu : a.eval (.tmp i) = u) :
    (execOp a.eval { dst := some d, op := .call { callee := .value (.func 57), args := #[.tmp i], argTypes := #[9] }, type := t, pos := p, after := f, guard := none }).run Try.prog X = .ok (.enter 57 #[u]) X := by
  subst hu
  simp only [execOp]
  go_simp
theorem run_bd (X : World) (a : Act) (i j k d : Nat) (t : TypeId) (p : String) (f : Array Edge) {x y : Int} {g : Option Addr} {n c : Nat} (hi : a.eval (.tmp i) = .int .i64 x) (hj : a.eval (.tmp j) = .int .i64 y) (hk : a.eval (.tmp k) = .slice g n c) :
    (execOp a.eval { dst := some d, op := .build 45 #[(0, .tmp i), (1, .tmp j), (2, .tmp k)], type := t, pos := p, after := f, guard := none }).run Try.prog X = .ok (.value (.agg #[.int .i64 x, .int .i64 y, .slice g n c])) X := by
  have hi' : a.tmps[i]?.getD undef = .int .i64 x := by simpa [Act.eval] using hi
  have hj' : a.tmps[j]?.getD undef = .int .i64 y := by simpa [Act.eval] using hj
  have hk' : a.tmps[k]?.getD undef = .slice g n c := by simpa [Act.eval] using hk
  clear hi hj hk
  simp only [execOp]
  go_simp
theorem run_alP (X : World) (a : Act) (d : Nat) (t : TypeId) (p : String) (f : Array Edge) :
    (execOp a.eval { dst := some d, op := .alloc 45, type := t, pos := p, after := f, guard := none }).run Try.prog X = .ok (.value (.pointer (some ⟨X.heap.size, 0, none⟩))) (X.alloc (.cells #[.int .i64 0, .int .i64 0, .slice none 0 0] 45)) := by
  simp only [execOp]
  go_simp
theorem run_stP (X : World) (a : Act) (b i j : Nat) (t : TypeId) (p : String) (f : Array Edge) {x y x' y' : Int} {g g' : Option Addr} {k c k' c' : Nat} (hb : Bx3 X b (.int .i64 x) (.int .i64 y) (.slice g k c)) (he : a.eval (.tmp i) = .pointer (some ⟨b, 0, none⟩)) (hv : a.eval (.tmp j) = .agg #[.int .i64 x', .int .i64 y', .slice g' k' c']) :
    (execOp a.eval { dst := none, op := .store 45 (.tmp i) (.tmp j), type := t, pos := p, after := f, guard := none }).run Try.prog X = .ok .skip (((X.setCell ⟨b, 0, none⟩ (.int .i64 x')).setCell ⟨b, 1, none⟩ (.int .i64 y')).setCell ⟨b, 2, none⟩ (.slice g' k' c')) := by
  have x0 := hb.c0
  have x1 := hb.c1
  have x2 := hb.c2
  have z0 := hb.fz 0
  have z1 := hb.fz 1
  have z2 := hb.fz 2
  simp only [execOp, he, hv]
  go_simp

def Wo (wc : World) (s : ByteArray) (L : Nat → Bool) (a : Act) (X : World) : Prop :=
  Below wc.heap.size wc X ∧
  (L 0 = true → a.eval (.tmp 11) = .string s) ∧ (L 1 = true → a.eval (.tmp 12) = .int .u8 (byt s 4)) ∧ (L 2 = true → a.eval (.tmp 13) = .int .i64 (byt s 4)) ∧
  (L 3 = true → a.eval (.tmp 14) = .string s) ∧ (L 4 = true → a.eval (.tmp 15) = .int .i64 (four s 8)) ∧ (L 5 = true → a.eval (.tmp 16) = .string s) ∧
  (L 6 = true → ∃ v, a.eval (.tmp 17) = v ∧ X.ownsRow wc.heap.size 9 1 v (rd s (many s) 0 1024).length (valsS (rd s (many s) 0 1024))) ∧
  (L 7 = true → ∃ v, a.eval (.tmp 18) = .agg #[.int .i64 (byt s 4), .int .i64 (four s 8), v] ∧ X.ownsRow wc.heap.size 9 1 v (rd s (many s) 0 1024).length (valsS (rd s (many s) 0 1024))) ∧
  (L 8 = true → ∃ b, a.eval (.tmp 4) = .pointer (some ⟨b, 0, none⟩) ∧ wc.heap.size ≤ b ∧ Bx3 X b (.int .i64 0) (.int .i64 0) (.slice none 0 0))
def Io (wc : World) (s : ByteArray) (a0 : Act) (L : Nat → Bool) (a : Act) (X : World) : Prop :=
  Fr [11, 12, 13, 14, 15, 16, 17, 18, 4] a0 a ∧ (L 9 = true → ∀ q, q < 9 → L q = true) ∧
  (L 9 = true → ∃ b v, a.eval (.tmp 4) = .pointer (some ⟨b, 0, none⟩) ∧ wc.heap.size ≤ b ∧ Bx3 X b (.int .i64 (byt s 4)) (.int .i64 (four s 8)) v ∧ Below wc.heap.size wc X ∧ X.ownsRow wc.heap.size 9 1 v (rd s (many s) 0 1024).length (valsS (rd s (many s) 0 1024))) ∧
  (L 9 = false → Wo wc s L a X)

set_option maxHeartbeats 2000000 in
theorem regO {Q : Exit → Act → World → Prop} {ops : Array Oper} {id : Nat} {a0 : Act} {wc : World} (s : ByteArray) (hs1 : s.size = 1024)
    (hsz : 18 < a0.tmps.size) (e0 : a0.eval (.tmp 0) = .string s)
    {t0 t1 t2 t3 t4 t5 t6 t7 t8 t9 : TypeId} {p0 p1 p2 p3 p4 p5 p6 p7 p8 p9 : String} {f0 f1 f2 f3 f4 f5 f6 f7 f8 f9 : Array Edge}
    (hops : ops = #[⟨some 11, .move (.tmp 0), t0, p0, f0, none⟩, ⟨some 12, .index 9 (.tmp 11) (.const (.int .i64 4)), t1, p1, f1, none⟩, ⟨some 13, .convert 5 3 (.tmp 12), t2, p2, f2, none⟩,
      ⟨some 14, .move (.tmp 0), t3, p3, f3, none⟩, ⟨some 15, .call { callee := .value (.func 56), args := #[.tmp 14, .const (.int .i64 8)], argTypes := #[9, 3] }, t4, p4, f4, none⟩,
      ⟨some 16, .move (.tmp 0), t5, p5, f5, none⟩, ⟨some 17, .call { callee := .value (.func 57), args := #[.tmp 16], argTypes := #[9] }, t6, p6, f6, none⟩,
      ⟨some 18, .build 45 #[(0, .tmp 13), (1, .tmp 15), (2, .tmp 17)], t7, p7, f7, none⟩, ⟨some 4, .alloc 45, t8, p8, f8, none⟩, ⟨none, .store 45 (.tmp 4) (.tmp 18), t9, p9, f9, none⟩])
    (hb : backB ops = true) (d1 : depB f1 [0] = true) (d2 : depB f2 [1] = true) (d4 : depB f4 [3] = true) (d6 : depB f6 [5] = true) (d7 : depB f7 [2, 4, 6] = true) (d9 : depB f9 [0, 1, 2, 3, 4, 5, 6, 7, 8] = true) (hm : Try.prog.follows .mixedOrders = true)
    (hQ : ∀ (u11 u12 u13 u14 u15 u16 u17 u18 : Value) b v X, wc.heap.size ≤ b → Bx3 X b (.int .i64 (byt s 4)) (.int .i64 (four s 8)) v → Below wc.heap.size wc X → X.ownsRow wc.heap.size 9 1 v (rd s (many s) 0 1024).length (valsS (rd s (many s) 0 1024)) →
      Q .normal ⟨sets [(11, u11), (12, u12), (13, u13), (14, u14), (15, u15), (16, u16), (17, u17), (18, u18), (4, .pointer (some ⟨b, 0, none⟩))] a0.tmps, a0.defers⟩ X) :
    (Code.region id ops true).wp Try.prog Q a0 wc := by
  refine wp_region_inv hm (Io wc s) (backB_spec hb) ?_ ?_ ?_
  · refine ⟨Fr.refl _ _, fun h => absurd h (by decide), fun h => absurd h (by decide), fun _ => ⟨(Below.refl _ _).drew, ?_⟩⟩
    refine ⟨?_, ?_, ?_, ?_, ?_, ?_, ?_, ?_, ?_⟩ <;> intro h <;> exact absurd h (by decide)
  · intro L a X hI q o ho hL hd
    obtain ⟨hF, hA, -, hW⟩ := hI
    have hs : a.tmps.size = a0.tmps.size := hF.2.1
    have E0 : a.eval (.tmp 0) = .string s := by rw [hF.eval (by decide), e0]
    have h9 : L 9 = false := by
      cases h : L 9 with
      | false => rfl
      | true =>
        by_cases e : q = 9
        · rw [e, h] at hL; cases hL
        · subst hops
          have hq : q < 10 := (Array.getElem?_eq_some_iff.1 ho).1
          rw [hA h q (by omega)] at hL; cases hL
    have hno : L 9 = true → False := fun h => by rw [h9] at h; cases h
    obtain ⟨hB, g0, g1, g2, g3, g4, g5, g6, g7, g8⟩ := hW h9
    clear hW hA
    subst hops
    obtain _ | _ | _ | _ | _ | _ | _ | _ | _ | _ | q := q
    · cases ho
      refine wpOp_value rfl rfl (run_mvP X a 0 11 _ _ _ E0) ?_
      show Io _ _ a0 (upd L 0) (a.put (some 11) _) _
      exact ⟨hF.put (by decide) _, fun h => (hno h).elim, fun h => (hno h).elim, fun _ => ⟨hB, (fun _ => eval_put_same (by omega) _), (fun h => by rw [eval_put_ne (by decide)]; exact g1 h), (fun h => by rw [eval_put_ne (by decide)]; exact g2 h), (fun h => by rw [eval_put_ne (by decide)]; exact g3 h), (fun h => by rw [eval_put_ne (by decide)]; exact g4 h), (fun h => by rw [eval_put_ne (by decide)]; exact g5 h), (fun h => by obtain ⟨v, e, r⟩ := g6 h; exact ⟨v, by rw [eval_put_ne (by decide)]; exact e, r⟩), (fun h => by obtain ⟨v, e, r⟩ := g7 h; exact ⟨v, by rw [eval_put_ne (by decide)]; exact e, r⟩), (fun h => by obtain ⟨b, e, z, r⟩ := g8 h; exact ⟨b, by rw [eval_put_ne (by decide)]; exact e, z, r⟩)⟩⟩
    · cases ho
      have hdj := depB_spec d1 hd
      refine wpOp_value rfl rfl (run_ix X a s 11 12 _ _ _ hs1 (g0 (hdj 0 (by decide)))) ?_
      show Io _ _ a0 (upd L 1) (a.put (some 12) _) _
      exact ⟨hF.put (by decide) _, fun h => (hno h).elim, fun h => (hno h).elim, fun _ => ⟨hB, (fun h => by rw [eval_put_ne (by decide)]; exact g0 h), (fun _ => eval_put_same (by omega) _), (fun h => by rw [eval_put_ne (by decide)]; exact g2 h), (fun h => by rw [eval_put_ne (by decide)]; exact g3 h), (fun h => by rw [eval_put_ne (by decide)]; exact g4 h), (fun h => by rw [eval_put_ne (by decide)]; exact g5 h), (fun h => by obtain ⟨v, e, r⟩ := g6 h; exact ⟨v, by rw [eval_put_ne (by decide)]; exact e, r⟩), (fun h => by obtain ⟨v, e, r⟩ := g7 h; exact ⟨v, by rw [eval_put_ne (by decide)]; exact e, r⟩), (fun h => by obtain ⟨b, e, z, r⟩ := g8 h; exact ⟨b, by rw [eval_put_ne (by decide)]; exact e, z, r⟩)⟩⟩
    · cases ho
      have hdj := depB_spec d2 hd
      refine wpOp_value rfl rfl (run_cv X a s 12 13 _ _ _ (g1 (hdj 1 (by decide)))) ?_
      show Io _ _ a0 (upd L 2) (a.put (some 13) _) _
      exact ⟨hF.put (by decide) _, fun h => (hno h).elim, fun h => (hno h).elim, fun _ => ⟨hB, (fun h => by rw [eval_put_ne (by decide)]; exact g0 h), (fun h => by rw [eval_put_ne (by decide)]; exact g1 h), (fun _ => eval_put_same (by omega) _), (fun h => by rw [eval_put_ne (by decide)]; exact g3 h), (fun h => by rw [eval_put_ne (by decide)]; exact g4 h), (fun h => by rw [eval_put_ne (by decide)]; exact g5 h), (fun h => by obtain ⟨v, e, r⟩ := g6 h; exact ⟨v, by rw [eval_put_ne (by decide)]; exact e, r⟩), (fun h => by obtain ⟨v, e, r⟩ := g7 h; exact ⟨v, by rw [eval_put_ne (by decide)]; exact e, r⟩), (fun h => by obtain ⟨b, e, z, r⟩ := g8 h; exact ⟨b, by rw [eval_put_ne (by decide)]; exact e, z, r⟩)⟩⟩
    · cases ho
      refine wpOp_value rfl rfl (run_mvP X a 0 14 _ _ _ E0) ?_
      show Io _ _ a0 (upd L 3) (a.put (some 14) _) _
      exact ⟨hF.put (by decide) _, fun h => (hno h).elim, fun h => (hno h).elim, fun _ => ⟨hB, (fun h => by rw [eval_put_ne (by decide)]; exact g0 h), (fun h => by rw [eval_put_ne (by decide)]; exact g1 h), (fun h => by rw [eval_put_ne (by decide)]; exact g2 h), (fun _ => eval_put_same (by omega) _), (fun h => by rw [eval_put_ne (by decide)]; exact g4 h), (fun h => by rw [eval_put_ne (by decide)]; exact g5 h), (fun h => by obtain ⟨v, e, r⟩ := g6 h; exact ⟨v, by rw [eval_put_ne (by decide)]; exact e, r⟩), (fun h => by obtain ⟨v, e, r⟩ := g7 h; exact ⟨v, by rw [eval_put_ne (by decide)]; exact e, r⟩), (fun h => by obtain ⟨b, e, z, r⟩ := g8 h; exact ⟨b, by rw [eval_put_ne (by decide)]; exact e, z, r⟩)⟩⟩
    · cases ho
      have hdj := depB_spec d4 hd
      refine wpOp_call (R := fun u X' => u = .int .i64 (four s 8) ∧ Below X.heap.size X X') rfl rfl (run_f4 X a 14 15 _ _ _ (g3 (hdj 3 (by decide)))) ((cfour s 8 X (by omega) (by omega)).mono fun e X' h => ?_) ?_
      · obtain ⟨h1, nq, h2⟩ := h
        exact ⟨_, h1, rfl, by rw [h2]; exact below_drewN (Below.refl _ _) nq⟩
      rintro u X' ⟨rfl, hb'⟩
      show Io _ _ a0 (upd L 4) (a.put (some 15) _) _
      exact ⟨hF.put (by decide) _, fun h => (hno h).elim, fun h => (hno h).elim, fun _ => ⟨(hB.trans (hb'.mono hB.size)), (fun h => by rw [eval_put_ne (by decide)]; exact g0 h), (fun h => by rw [eval_put_ne (by decide)]; exact g1 h), (fun h => by rw [eval_put_ne (by decide)]; exact g2 h), (fun h => by rw [eval_put_ne (by decide)]; exact g3 h), (fun _ => eval_put_same (by omega) _), (fun h => by rw [eval_put_ne (by decide)]; exact g5 h), (fun h => by obtain ⟨v, e, r⟩ := g6 h; exact ⟨v, by rw [eval_put_ne (by decide)]; exact e, own_below r hb'⟩), (fun h => by obtain ⟨v, e, r⟩ := g7 h; exact ⟨v, by rw [eval_put_ne (by decide)]; exact e, own_below r hb'⟩), (fun h => by obtain ⟨b, e, z, r⟩ := g8 h; exact ⟨b, by rw [eval_put_ne (by decide)]; exact e, z, r.below hb'⟩)⟩⟩
    · cases ho
      refine wpOp_value rfl rfl (run_mvP X a 0 16 _ _ _ E0) ?_
      show Io _ _ a0 (upd L 5) (a.put (some 16) _) _
      exact ⟨hF.put (by decide) _, fun h => (hno h).elim, fun h => (hno h).elim, fun _ => ⟨hB, (fun h => by rw [eval_put_ne (by decide)]; exact g0 h), (fun h => by rw [eval_put_ne (by decide)]; exact g1 h), (fun h => by rw [eval_put_ne (by decide)]; exact g2 h), (fun h => by rw [eval_put_ne (by decide)]; exact g3 h), (fun h => by rw [eval_put_ne (by decide)]; exact g4 h), (fun _ => eval_put_same (by omega) _), (fun h => by obtain ⟨v, e, r⟩ := g6 h; exact ⟨v, by rw [eval_put_ne (by decide)]; exact e, r⟩), (fun h => by obtain ⟨v, e, r⟩ := g7 h; exact ⟨v, by rw [eval_put_ne (by decide)]; exact e, r⟩), (fun h => by obtain ⟨b, e, z, r⟩ := g8 h; exact ⟨b, by rw [eval_put_ne (by decide)]; exact e, z, r⟩)⟩⟩
    · cases ho
      have hdj := depB_spec d6 hd
      refine wpOp_call (R := fun u X' => X'.ownsRow X.heap.size 9 1 u (rd s (many s) 0 1024).length (valsS (rd s (many s) 0 1024)) ∧ Below X.heap.size X X') rfl rfl (run_cl X a 16 17 _ _ _ (g5 (hdj 5 (by decide)))) ((ccells s X hs1).mono fun e X' h => ?_) ?_
      · obtain ⟨v, h1, h2, h3⟩ := h
        exact ⟨v, h1, h2, h3⟩
      rintro u X' ⟨ho', hb'⟩
      have ho2 : X'.ownsRow wc.heap.size 9 1 u (rd s (many s) 0 1024).length (valsS (rd s (many s) 0 1024)) := by
        refine ⟨ho'.1, ?_⟩
        rcases ho'.2 with h | ⟨g, cap, cur, h1, h2, h3⟩
        · exact .inl h
        · exact .inr ⟨g, cap, cur, h1, Nat.le_trans hB.size h2, h3⟩
      show Io _ _ a0 (upd L 6) (a.put (some 17) _) _
      exact ⟨hF.put (by decide) _, fun h => (hno h).elim, fun h => (hno h).elim, fun _ => ⟨(hB.trans (hb'.mono hB.size)), (fun h => by rw [eval_put_ne (by decide)]; exact g0 h), (fun h => by rw [eval_put_ne (by decide)]; exact g1 h), (fun h => by rw [eval_put_ne (by decide)]; exact g2 h), (fun h => by rw [eval_put_ne (by decide)]; exact g3 h), (fun h => by rw [eval_put_ne (by decide)]; exact g4 h), (fun h => by rw [eval_put_ne (by decide)]; exact g5 h), (fun _ => ⟨u, eval_put_same (by omega) _, ho2⟩), (fun h => by obtain ⟨v, e, r⟩ := g7 h; exact ⟨v, by rw [eval_put_ne (by decide)]; exact e, own_below r hb'⟩), (fun h => by obtain ⟨b, e, z, r⟩ := g8 h; exact ⟨b, by rw [eval_put_ne (by decide)]; exact e, z, r.below hb'⟩)⟩⟩
    · cases ho
      have hdj := depB_spec d7 hd
      obtain ⟨v, x17, ho'⟩ := g6 (hdj 6 (by decide))
      obtain ⟨ga, gc, rfl, -⟩ := sta_own ho'
      refine wpOp_value rfl rfl (run_bd X a 13 15 17 18 _ _ _ (g2 (hdj 2 (by decide))) (g4 (hdj 4 (by decide))) x17) ?_
      show Io _ _ a0 (upd L 7) (a.put (some 18) _) _
      exact ⟨hF.put (by decide) _, fun h => (hno h).elim, fun h => (hno h).elim, fun _ => ⟨hB, (fun h => by rw [eval_put_ne (by decide)]; exact g0 h), (fun h => by rw [eval_put_ne (by decide)]; exact g1 h), (fun h => by rw [eval_put_ne (by decide)]; exact g2 h), (fun h => by rw [eval_put_ne (by decide)]; exact g3 h), (fun h => by rw [eval_put_ne (by decide)]; exact g4 h), (fun h => by rw [eval_put_ne (by decide)]; exact g5 h), (fun h => by obtain ⟨v, e, r⟩ := g6 h; exact ⟨v, by rw [eval_put_ne (by decide)]; exact e, r⟩), (fun _ => ⟨_, eval_put_same (by omega) _, ho'⟩), (fun h => by obtain ⟨b, e, z, r⟩ := g8 h; exact ⟨b, by rw [eval_put_ne (by decide)]; exact e, z, r⟩)⟩⟩
    · cases ho
      have hb' : Below X.heap.size X (X.alloc (.cells #[.int .i64 0, .int .i64 0, .slice none 0 0] 45)) := (Below.refl _ _).alloc (Nat.le_refl _) _
      refine wpOp_value rfl rfl (run_alP X a 4 _ _ _) ?_
      show Io _ _ a0 (upd L 8) (a.put (some 4) _) _
      exact ⟨hF.put (by decide) _, fun h => (hno h).elim, fun h => (hno h).elim, fun _ => ⟨(hB.trans (hb'.mono hB.size)), (fun h => by rw [eval_put_ne (by decide)]; exact g0 h), (fun h => by rw [eval_put_ne (by decide)]; exact g1 h), (fun h => by rw [eval_put_ne (by decide)]; exact g2 h), (fun h => by rw [eval_put_ne (by decide)]; exact g3 h), (fun h => by rw [eval_put_ne (by decide)]; exact g4 h), (fun h => by rw [eval_put_ne (by decide)]; exact g5 h), (fun h => by obtain ⟨v, e, r⟩ := g6 h; exact ⟨v, by rw [eval_put_ne (by decide)]; exact e, own_below r hb'⟩), (fun h => by obtain ⟨v, e, r⟩ := g7 h; exact ⟨v, by rw [eval_put_ne (by decide)]; exact e, own_below r hb'⟩), (fun _ => ⟨X.heap.size, eval_put_same (by omega) _, hB.size, Bx3.new _ _ _ _⟩)⟩⟩
    · cases ho
      have hdj := depB_spec d9 hd
      obtain ⟨v, x18, ho'⟩ := g7 (hdj 7 (by decide))
      obtain ⟨b, x4, zb, hbx⟩ := g8 (hdj 8 (by decide))
      obtain ⟨ga, gc, rfl, -⟩ := sta_own ho'
      refine wpOp_skip rfl rfl (run_stP X a b 4 18 _ _ _ hbx x4 x18) ?_
      show Io _ _ a0 (upd L 9) a _
      refine ⟨hF, fun _ q hq => ?_, fun _ => ⟨b, _, x4, zb, hbx.put _ _ _, ((hB.setCell zb _).setCell zb _).setCell zb _, own_put hbx ho' _ _ _⟩, fun h => by rw [upd_same] at h; cases h⟩
      rw [upd_ne _ (by omega)]
      exact hdj q (by simp; omega)
    · cases ho
  · intro L a X hI hall
    subst hops
    obtain ⟨hF, -, hfin, -⟩ := hI
    obtain ⟨b, v, x4, l1, l2, l3, l4⟩ := hfin (hall 9 (by simp))
    have hs : a.tmps.size = a0.tmps.size := hF.2.1
    rw [hF.eq [(11, a.eval (.tmp 11)), (12, a.eval (.tmp 12)), (13, a.eval (.tmp 13)), (14, a.eval (.tmp 14)), (15, a.eval (.tmp 15)), (16, a.eval (.tmp 16)), (17, a.eval (.tmp 17)), (18, a.eval (.tmp 18)), (4, .pointer (some ⟨b, 0, none⟩))] (by simp) (by simp [x4]; omega)]
    exact hQ _ _ _ _ _ _ _ _ b v X l1 l2 l3 l4
end Go.Proofs.Ythimnpobcfkghaa
