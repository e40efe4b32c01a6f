/- The statement of relstoreref.Reckon that makes two long numbers, whatever its order is. -/
import Derived.Test.YtohdfohnajifaaaLong8
namespace Go.Proofs.Ytohdfohnajifaaa
open Go.RowKit

theorem Box2.set0 {W : World} {B : Nat} {t : TypeId} {x y : Value} (x' : Value) (h : Box2 W B t x y) : Box2 (W.setCell ⟨B, 0, none⟩ x') B t x' y := by
  obtain ⟨hlt, hk⟩ := Array.getElem?_eq_some_iff.1 h
  show (W.heap.modify B _)[B]? = _
  rw [Array.getElem?_eq_getElem (by rw [Array.size_modify]; exact hlt), Array.getElem_modify_self, hk]
  rfl
theorem DgS.set {K : Nat} {w : World} {v : Value} {x : Int} (h : DgS K w v x) {A o : Nat} {u : Value} (hc : w.cell? ⟨A, o, none⟩ = some u) (hu : ∀ x, u ≠ .int .i64 x) (y : Value) : DgS K (w.setCell ⟨A, o, none⟩ y) v x := by
  obtain ⟨a, k, cap, f, h1, h2, h3, h4, h5⟩ := h
  exact ⟨a, k, cap, f, h1, h2, h3, h4.set hc hu y, h5⟩
theorem DgS.put {K : Nat} {w : World} {v : Value} {x : Int} (h : DgS K w v x) {b : Nat} {t : TypeId} {m m' : Bool} {g : Option Addr} {k c : Nat} (hb : Box2 w b t (.bool m) (.slice g k c)) (u : Value) : DgS K ((w.setCell ⟨b, 0, none⟩ (.bool m')).setCell ⟨b, 1, none⟩ u) v x :=
  (h.set hb.cell0 (by simp) _).set (hb.set0 (.bool m')).cell1 (by simp) _

theorem run_faV (X : World) (a : Act) (B i d : Nat) (t : TypeId) (p : String) (f : Array Edge) (he : a.eval (.tmp i) = .pointer (some ⟨B, 0, none⟩)) :
    (execOp a.eval { dst := some d, op := .fieldAddr 23 (.tmp i) 1, type := t, pos := p, after := f, guard := none }).run Try.prog X = .ok (.value (.pointer (some ⟨B, 1, none⟩))) X := by
  simp only [execOp, he]
  go_simp
theorem run_ldN (X : World) (a : Act) (A : Addr) (i d : Nat) (t : TypeId) (p : String) (f : Array Edge) {v : Value} (hc : X.cell? A = some v) (he : a.eval (.tmp i) = .pointer (some A)) :
    (execOp a.eval { dst := some d, op := .load 2 (.tmp i), type := t, pos := p, after := f, guard := none }).run Try.prog X = .ok (.value v) X := by
  simp only [execOp, he]
  go_simp
theorem run_lo (X : World) (a : Act) (i d : Nat) (t : TypeId) (p : String) (f : Array Edge) {u : Value} (hu : a.eval (.tmp i) = u) :
    (execOp a.eval { dst := some d, op := .call { callee := .value (.func 63), args := #[.tmp i], argTypes := #[2] }, type := t, pos := p, after := f, guard := none }).run Try.prog X = .ok (.enter 63 #[u]) X := by
  subst hu
  simp only [execOp]
  go_simp
theorem run_al (X : World) (a : Act) (d : Nat) (t : TypeId) (p : String) (f : Array Edge) :
    (execOp a.eval { dst := some d, op := .alloc 66, type := t, pos := p, after := f, guard := none }).run Try.prog X = .ok (.value (.pointer (some ⟨X.heap.size, 0, none⟩))) (X.alloc (.cells #[.bool false, .slice none 0 0] 66)) := by
  simp only [execOp]
  go_simp
theorem run_st2 (X : World) (a : Act) (b i j : Nat) (t : TypeId) (p : String) (f : Array Edge) {m m' : Bool} {g g' : Option Addr} {k c k' c' : Nat} (hb : Box2 X b 66 (.bool m) (.slice g k c)) (he : a.eval (.tmp i) = .pointer (some ⟨b, 0, none⟩)) (hv : a.eval (.tmp j) = .agg #[.bool m', .slice g' k' c']) :
    (execOp a.eval { dst := none, op := .store 66 (.tmp i) (.tmp j), type := t, pos := p, after := f, guard := none }).run Try.prog X = .ok .skip ((X.setCell ⟨b, 0, none⟩ (.bool m')).setCell ⟨b, 1, none⟩ (.slice g' k' c')) := by
  have x0 := hb.cell0
  have x1 := hb.cell1
  have x2 := hb.frozen 0
  have x3 := hb.frozen 1
  simp only [execOp, he, hv]
  go_simp

/- a box that holds nothing yet, or its number -/
def Bx (X : World) (N b : Nat) (full : Bool) (x : Int) : Prop := N ≤ b ∧ (full = false → Box2 X b 66 (.bool false) (.slice none 0 0)) ∧ (full = true → ∃ v, Box2 X b 66 (.bool (decide (x < 0))) v ∧ DgS 5 X v x.natAbs)
theorem Bx.below {X Y : World} {N b : Nat} {full : Bool} {x : Int} (h : Bx X N b full x) (hb : Below X.heap.size X Y) : Bx Y N b full x :=
  ⟨h.1, fun e => (h.2.1 e).below hb, fun e => by obtain ⟨v, h1, h2⟩ := h.2.2 e; exact ⟨v, h1.below hb, h2.below hb⟩⟩
theorem Bx.put {X : World} {N b b' : Nat} {full : Bool} {x : Int} (h : Bx X N b full x) (hne : b ≠ b') {t : TypeId} {m m' : Bool} {g : Option Addr} {k c : Nat} (hb : Box2 X b' t (.bool m) (.slice g k c)) (u : Value) : Bx ((X.setCell ⟨b', 0, none⟩ (.bool m')).setCell ⟨b', 1, none⟩ u) N b full x :=
  ⟨h.1, fun e => ((h.2.1 e).far hne _).far hne _, fun e => by obtain ⟨v, h1, h2⟩ := h.2.2 e; exact ⟨v, (h1.far hne _).far hne _, h2.put hb u⟩⟩

def Wl (wc : World) (B : Nat) (x y : Int) (L : Nat → Bool) (a : Act) (X : World) : Prop :=
  Below wc.heap.size wc X ∧
  (L 0 = true → a.eval (.tmp 18) = .pointer (some ⟨B, 1, none⟩)) ∧ (L 1 = true → a.eval (.tmp 19) = .int .i64 x) ∧
  (L 2 = true → ∃ v, a.eval (.tmp 20) = .agg #[.bool (decide (x < 0)), v] ∧ DgS 5 X v x.natAbs) ∧
  (L 3 = true → a.eval (.tmp 21) = .pointer (some ⟨B + 1, 1, none⟩)) ∧ (L 4 = true → a.eval (.tmp 22) = .int .i64 y) ∧
  (L 5 = true → ∃ v, a.eval (.tmp 23) = .agg #[.bool (decide (y < 0)), v] ∧ DgS 5 X v y.natAbs) ∧
  (L 6 = true → ∃ b, a.eval (.tmp 7) = .pointer (some ⟨b, 0, none⟩) ∧ Bx X wc.heap.size b (L 8) x ∧ b < X.heap.size) ∧
  (L 7 = true → ∃ b, a.eval (.tmp 8) = .pointer (some ⟨b, 0, none⟩) ∧ Bx X wc.heap.size b (L 9) y ∧ b < X.heap.size) ∧
  (L 6 = true → L 7 = true → ∀ b b', a.eval (.tmp 7) = .pointer (some ⟨b, 0, none⟩) → a.eval (.tmp 8) = .pointer (some ⟨b', 0, none⟩) → b ≠ b')
def Il (wc : World) (B : Nat) (x y : Int) (a0 : Act) (L : Nat → Bool) (a : Act) (X : World) : Prop :=
  Fr [18, 19, 20, 21, 22, 23, 7, 8] a0 a ∧ (L 8 = true → L 6 = true) ∧ (L 9 = true → L 7 = true) ∧ Wl wc B x y L a X

set_option maxHeartbeats 2000000 in
theorem regL {Q : Exit → Act → World → Prop} {ops : Array Oper} {id : Nat} {a0 : Act} {wc : World} (B : Nat) (x y : Int) (hx : fits x = true) (hy : fits y = true) (hz : B + 1 < wc.heap.size)
    (cx : wc.cell? ⟨B, 1, none⟩ = some (.int .i64 x)) (cy : wc.cell? ⟨B + 1, 1, none⟩ = some (.int .i64 y))
    (hsz : 23 < a0.tmps.size) (e4 : a0.eval (.tmp 4) = .pointer (some ⟨B, 0, none⟩)) (e5 : a0.eval (.tmp 5) = .pointer (some ⟨B + 1, 0, none⟩))
    {t0 t1 t2 t3 t4 t5 t6 t7 t8 t9 : TypeId} {p0 p1 p2 p3 p4 p5 p6 p7 p8 p9 : String} {f0 f1 f2 f3 f4 f5 f6 f7 f8 f9 : Array Edge}
    (hops : ops = #[⟨some 18, .fieldAddr 23 (.tmp 4) 1, t0, p0, f0, none⟩, ⟨some 19, .load 2 (.tmp 18), t1, p1, f1, none⟩,
      ⟨some 20, .call { callee := .value (.func 63), args := #[.tmp 19], argTypes := #[2] }, t2, p2, f2, none⟩,
      ⟨some 21, .fieldAddr 23 (.tmp 5) 1, t3, p3, f3, none⟩, ⟨some 22, .load 2 (.tmp 21), t4, p4, f4, none⟩,
      ⟨some 23, .call { callee := .value (.func 63), args := #[.tmp 22], argTypes := #[2] }, t5, p5, f5, none⟩,
      ⟨some 7, .alloc 66, t6, p6, f6, none⟩, ⟨some 8, .alloc 66, t7, p7, f7, none⟩,
      ⟨none, .store 66 (.tmp 7) (.tmp 20), t8, p8, f8, none⟩, ⟨none, .store 66 (.tmp 8) (.tmp 23), t9, p9, f9, none⟩])
    (hb : backB ops = true) (d1 : depB f1 [0] = true) (d2 : depB f2 [1] = true) (d4 : depB f4 [3] = true) (d5 : depB f5 [4] = true) (d8 : depB f8 [2, 6] = true) (d9 : depB f9 [5, 7] = true) (hm : Try.prog.follows .mixedOrders = true)
    (hQ : ∀ (u18 u19 u20 u21 u22 u23 : Value) (b b' : Nat) (v v' : Value) X, Below wc.heap.size wc X → wc.heap.size ≤ b → wc.heap.size ≤ b' → b ≠ b' → Box2 X b 66 (.bool (decide (x < 0))) v → DgS 5 X v x.natAbs → Box2 X b' 66 (.bool (decide (y < 0))) v' → DgS 5 X v' y.natAbs →
      Q .normal ⟨sets [(18, u18), (19, u19), (20, u20), (21, u21), (22, u22), (23, u23), (7, .pointer (some ⟨b, 0, none⟩)), (8, .pointer (some ⟨b', 0, none⟩))] a0.tmps, a0.defers⟩ X) :
    (Code.region id ops true).wp Try.prog Q a0 wc := by
  refine wp_region_inv hm (Il wc B x y) (backB_spec hb) ?_ ?_ ?_
  · refine ⟨Fr.refl _ _, fun h => absurd h (by decide), fun h => absurd h (by decide), (Below.refl _ _).drew, ?_⟩
    refine ⟨?_, ?_, ?_, ?_, ?_, ?_, ?_, ?_, ?_⟩ <;> intro h <;> exact absurd h (by decide)
  · intro L a X hI q o ho hL hd
    obtain ⟨hF, c86, c97, hB, g0, g1, g2, g3, g4, g5, g6, g7, gd⟩ := hI
    have hs : a.tmps.size = a0.tmps.size := hF.2.1
    have E4 : a.eval (.tmp 4) = .pointer (some ⟨B, 0, none⟩) := by rw [hF.eval (by decide), e4]
    have E5 : a.eval (.tmp 5) = .pointer (some ⟨B + 1, 0, none⟩) := by rw [hF.eval (by decide), e5]
    subst hops
    obtain _ | _ | _ | _ | _ | _ | _ | _ | _ | _ | q := q
    · cases ho
      refine wpOp_value rfl rfl (run_faV X a B 4 18 _ _ _ E4) ?_
      show Il _ _ _ _ a0 (upd L 0) (a.put (some 18) _) _
      exact ⟨hF.put (by decide) _, c86, c97, hB, (fun _ => eval_put_same (by omega) _), (fun h => by rw [eval_put_ne (by decide)]; exact g1 h), (fun h => by obtain ⟨v, e, r⟩ := g2 h; exact ⟨v, by rw [eval_put_ne (by decide)]; exact e, r⟩), (fun h => by rw [eval_put_ne (by decide)]; exact g3 h), (fun h => by rw [eval_put_ne (by decide)]; exact g4 h), (fun h => by obtain ⟨v, e, r⟩ := g5 h; exact ⟨v, by rw [eval_put_ne (by decide)]; exact e, r⟩), (fun h => by obtain ⟨b, e, r, z⟩ := g6 h; exact ⟨b, by rw [eval_put_ne (by decide)]; exact e, r, z⟩), (fun h => by obtain ⟨b, e, r, z⟩ := g7 h; exact ⟨b, by rw [eval_put_ne (by decide)]; exact e, r, z⟩), (fun h h' b b' => by rw [eval_put_ne (by decide), eval_put_ne (by decide)]; exact gd h h' b b')⟩
    · cases ho
      have hdj := depB_spec d1 hd
      refine wpOp_value rfl rfl (run_ldN X a _ 18 19 _ _ _ (keepCell hB (by omega) cx) (g0 (hdj 0 (by decide)))) ?_
      show Il _ _ _ _ a0 (upd L 1) (a.put (some 19) _) _
      exact ⟨hF.put (by decide) _, c86, c97, hB, (fun h => by rw [eval_put_ne (by decide)]; exact g0 h), (fun _ => eval_put_same (by omega) _), (fun h => by obtain ⟨v, e, r⟩ := g2 h; exact ⟨v, by rw [eval_put_ne (by decide)]; exact e, r⟩), (fun h => by rw [eval_put_ne (by decide)]; exact g3 h), (fun h => by rw [eval_put_ne (by decide)]; exact g4 h), (fun h => by obtain ⟨v, e, r⟩ := g5 h; exact ⟨v, by rw [eval_put_ne (by decide)]; exact e, r⟩), (fun h => by obtain ⟨b, e, r, z⟩ := g6 h; exact ⟨b, by rw [eval_put_ne (by decide)]; exact e, r, z⟩), (fun h => by obtain ⟨b, e, r, z⟩ := g7 h; exact ⟨b, by rw [eval_put_ne (by decide)]; exact e, r, z⟩), (fun h h' b b' => by rw [eval_put_ne (by decide), eval_put_ne (by decide)]; exact gd h h' b b')⟩
    · cases ho
      have hdj := depB_spec d2 hd
      refine wpOp_call (R := fun u X' => ∃ v, u = .agg #[.bool (decide (x < 0)), v] ∧ DgS 5 X' v x.natAbs ∧ Below X.heap.size X X') rfl rfl (run_lo X a 19 20 _ _ _ (g1 (hdj 1 (by decide)))) ((clongOf x X hx).mono fun e X' h => by obtain ⟨v, h1, h2, h3⟩ := h; exact ⟨_, h1, v, rfl, h2, h3⟩) ?_
      rintro u X' ⟨v, rfl, hdg, hb'⟩
      have hB' : Below wc.heap.size wc X' := hB.trans (hb'.mono hB.size)
      show Il _ _ _ _ a0 (upd L 2) (a.put (some 20) _) _
      exact ⟨hF.put (by decide) _, c86, c97, hB', (fun h => by rw [eval_put_ne (by decide)]; exact g0 h), (fun h => by rw [eval_put_ne (by decide)]; exact g1 h), (fun _ => ⟨v, eval_put_same (by omega) _, hdg⟩), (fun h => by rw [eval_put_ne (by decide)]; exact g3 h), (fun h => by rw [eval_put_ne (by decide)]; exact g4 h), (fun h => by obtain ⟨v, e, r⟩ := g5 h; exact ⟨v, by rw [eval_put_ne (by decide)]; exact e, r.below hb'⟩), (fun h => by obtain ⟨b, e, r, z⟩ := g6 h; exact ⟨b, by rw [eval_put_ne (by decide)]; exact e, r.below hb', keepSize hb' z⟩), (fun h => by obtain ⟨b, e, r, z⟩ := g7 h; exact ⟨b, by rw [eval_put_ne (by decide)]; exact e, r.below hb', keepSize hb' z⟩), (fun h h' b b' => by rw [eval_put_ne (by decide), eval_put_ne (by decide)]; exact gd h h' b b')⟩
    · cases ho
      refine wpOp_value rfl rfl (run_faV X a (B + 1) 5 21 _ _ _ E5) ?_
      show Il _ _ _ _ a0 (upd L 3) (a.put (some 21) _) _
      exact ⟨hF.put (by decide) _, c86, c97, hB, (fun h => by rw [eval_put_ne (by decide)]; exact g0 h), (fun h => by rw [eval_put_ne (by decide)]; exact g1 h), (fun h => by obtain ⟨v, e, r⟩ := g2 h; exact ⟨v, by rw [eval_put_ne (by decide)]; exact e, r⟩), (fun _ => eval_put_same (by omega) _), (fun h => by rw [eval_put_ne (by decide)]; exact g4 h), (fun h => by obtain ⟨v, e, r⟩ := g5 h; exact ⟨v, by rw [eval_put_ne (by decide)]; exact e, r⟩), (fun h => by obtain ⟨b, e, r, z⟩ := g6 h; exact ⟨b, by rw [eval_put_ne (by decide)]; exact e, r, z⟩), (fun h => by obtain ⟨b, e, r, z⟩ := g7 h; exact ⟨b, by rw [eval_put_ne (by decide)]; exact e, r, z⟩), (fun h h' b b' => by rw [eval_put_ne (by decide), eval_put_ne (by decide)]; exact gd h h' b b')⟩
    · cases ho
      have hdj := depB_spec d4 hd
      refine wpOp_value rfl rfl (run_ldN X a _ 21 22 _ _ _ (keepCell hB hz cy) (g3 (hdj 3 (by decide)))) ?_
      show Il _ _ _ _ a0 (upd L 4) (a.put (some 22) _) _
      exact ⟨hF.put (by decide) _, c86, c97, hB, (fun h => by rw [eval_put_ne (by decide)]; exact g0 h), (fun h => by rw [eval_put_ne (by decide)]; exact g1 h), (fun h => by obtain ⟨v, e, r⟩ := g2 h; exact ⟨v, by rw [eval_put_ne (by decide)]; exact e, r⟩), (fun h => by rw [eval_put_ne (by decide)]; exact g3 h), (fun _ => eval_put_same (by omega) _), (fun h => by obtain ⟨v, e, r⟩ := g5 h; exact ⟨v, by rw [eval_put_ne (by decide)]; exact e, r⟩), (fun h => by obtain ⟨b, e, r, z⟩ := g6 h; exact ⟨b, by rw [eval_put_ne (by decide)]; exact e, r, z⟩), (fun h => by obtain ⟨b, e, r, z⟩ := g7 h; exact ⟨b, by rw [eval_put_ne (by decide)]; exact e, r, z⟩), (fun h h' b b' => by rw [eval_put_ne (by decide), eval_put_ne (by decide)]; exact gd h h' b b')⟩
    · cases ho
      have hdj := depB_spec d5 hd
      refine wpOp_call (R := fun u X' => ∃ v, u = .agg #[.bool (decide (y < 0)), v] ∧ DgS 5 X' v y.natAbs ∧ Below X.heap.size X X') rfl rfl (run_lo X a 22 23 _ _ _ (g4 (hdj 4 (by decide)))) ((clongOf y X hy).mono fun e X' h => by obtain ⟨v, h1, h2, h3⟩ := h; exact ⟨_, h1, v, rfl, h2, h3⟩) ?_
      rintro u X' ⟨v, rfl, hdg, hb'⟩
      have hB' : Below wc.heap.size wc X' := hB.trans (hb'.mono hB.size)
      show Il _ _ _ _ a0 (upd L 5) (a.put (some 23) _) _
      exact ⟨hF.put (by decide) _, c86, c97, hB', (fun h => by rw [eval_put_ne (by decide)]; exact g0 h), (fun h => by rw [eval_put_ne (by decide)]; exact g1 h), (fun h => by obtain ⟨v, e, r⟩ := g2 h; exact ⟨v, by rw [eval_put_ne (by decide)]; exact e, r.below hb'⟩), (fun h => by rw [eval_put_ne (by decide)]; exact g3 h), (fun h => by rw [eval_put_ne (by decide)]; exact g4 h), (fun _ => ⟨v, eval_put_same (by omega) _, hdg⟩), (fun h => by obtain ⟨b, e, r, z⟩ := g6 h; exact ⟨b, by rw [eval_put_ne (by decide)]; exact e, r.below hb', keepSize hb' z⟩), (fun h => by obtain ⟨b, e, r, z⟩ := g7 h; exact ⟨b, by rw [eval_put_ne (by decide)]; exact e, r.below hb', keepSize hb' z⟩), (fun h h' b b' => by rw [eval_put_ne (by decide), eval_put_ne (by decide)]; exact gd h h' b b')⟩
    · cases ho
      have hb' : Below X.heap.size X (X.alloc (.cells #[.bool false, .slice none 0 0] 66)) := (Below.refl _ _).alloc (Nat.le_refl _) _
      have hf : L 8 = false := by cases h : L 8 with | false => rfl | true => rw [c86 h] at hL; cases hL
      refine wpOp_value rfl rfl (run_al X a 7 _ _ _) ?_
      show Il _ _ _ _ a0 (upd L 6) (a.put (some 7) _) _
      exact ⟨hF.put (by decide) _, fun _ => upd_same _ _, c97, (hB.trans (hb'.mono hB.size)), (fun h => by rw [eval_put_ne (by decide)]; exact g0 h), (fun h => by rw [eval_put_ne (by decide)]; exact g1 h), (fun h => by obtain ⟨v, e, r⟩ := g2 h; exact ⟨v, by rw [eval_put_ne (by decide)]; exact e, r.below hb'⟩), (fun h => by rw [eval_put_ne (by decide)]; exact g3 h), (fun h => by rw [eval_put_ne (by decide)]; exact g4 h), (fun h => by obtain ⟨v, e, r⟩ := g5 h; exact ⟨v, by rw [eval_put_ne (by decide)]; exact e, r.below hb'⟩), (fun _ => ⟨X.heap.size, eval_put_same (by omega) _, ⟨hB.size, fun _ => Box2.new _ _ _ _, fun h => by rw [upd_ne _ (by decide), hf] at h; cases h⟩, by simp⟩), (fun h => by obtain ⟨b, e, r, z⟩ := g7 h; exact ⟨b, by rw [eval_put_ne (by decide)]; exact e, r.below hb', keepSize hb' z⟩), (fun _ h' b b' e1 e2 => by rw [eval_put_same (by omega)] at e1; rw [eval_put_ne (by decide)] at e2; obtain ⟨b2, e3, -, z⟩ := g7 h'; rw [e3] at e2; cases e1; cases e2; exact Nat.ne_of_gt z)⟩
    · cases ho
      have hb' : Below X.heap.size X (X.alloc (.cells #[.bool false, .slice none 0 0] 66)) := (Below.refl _ _).alloc (Nat.le_refl _) _
      have hf : L 9 = false := by cases h : L 9 with | false => rfl | true => rw [c97 h] at hL; cases hL
      refine wpOp_value rfl rfl (run_al X a 8 _ _ _) ?_
      show Il _ _ _ _ a0 (upd L 7) (a.put (some 8) _) _
      exact ⟨hF.put (by decide) _, c86, fun _ => upd_same _ _, (hB.trans (hb'.mono hB.size)), (fun h => by rw [eval_put_ne (by decide)]; exact g0 h), (fun h => by rw [eval_put_ne (by decide)]; exact g1 h), (fun h => by obtain ⟨v, e, r⟩ := g2 h; exact ⟨v, by rw [eval_put_ne (by decide)]; exact e, r.below hb'⟩), (fun h => by rw [eval_put_ne (by decide)]; exact g3 h), (fun h => by rw [eval_put_ne (by decide)]; exact g4 h), (fun h => by obtain ⟨v, e, r⟩ := g5 h; exact ⟨v, by rw [eval_put_ne (by decide)]; exact e, r.below hb'⟩), (fun h => by obtain ⟨b, e, r, z⟩ := g6 h; exact ⟨b, by rw [eval_put_ne (by decide)]; exact e, r.below hb', keepSize hb' z⟩), (fun _ => ⟨X.heap.size, eval_put_same (by omega) _, ⟨hB.size, fun _ => Box2.new _ _ _ _, fun h => by rw [upd_ne _ (by decide), hf] at h; cases h⟩, by simp⟩), (fun h' _ b b' e1 e2 => by rw [eval_put_same (by omega)] at e2; rw [eval_put_ne (by decide)] at e1; obtain ⟨b2, e3, -, z⟩ := g6 h'; rw [e3] at e1; cases e1; cases e2; exact Nat.ne_of_lt z)⟩
    · cases ho
      have hdj := depB_spec d8 hd
      obtain ⟨v, xv, hdg⟩ := g2 (hdj 2 (by decide))
      obtain ⟨b, xb, hbx, zb⟩ := g6 (hdj 6 (by decide))
      have hbo := hbx.2.1 hL
      obtain ⟨ga, gk, gc, gf, rfl, -⟩ := (show DgS _ _ _ _ from hdg)
      refine wpOp_skip rfl rfl (run_st2 X a b 7 20 _ _ _ hbo xb xv) ?_
      show Il _ _ _ _ a0 (upd L 8) a _
      exact ⟨hF, fun _ => hdj 6 (by decide), c97, (hB.setCell hbx.1 _).setCell hbx.1 _, g0, g1, (fun h => by obtain ⟨v, e, r⟩ := g2 h; exact ⟨v, e, r.put hbo _⟩), g3, g4, (fun h => by obtain ⟨v, e, r⟩ := g5 h; exact ⟨v, e, r.put hbo _⟩), (fun _ => ⟨b, xb, ⟨hbx.1, (fun h => by rw [upd_same] at h; cases h), fun _ => ⟨_, (hbo.set0 _).set _, hdg.put hbo _⟩⟩, by simpa using zb⟩), (fun h => by obtain ⟨b2, e2, r2, z2⟩ := g7 h; exact ⟨b2, e2, r2.put (Ne.symm (gd (hdj 6 (by decide)) h b b2 xb e2)) hbo _, by simpa using z2⟩), gd⟩
    · cases ho
      have hdj := depB_spec d9 hd
      obtain ⟨v, xv, hdg⟩ := g5 (hdj 5 (by decide))
      obtain ⟨b, xb, hbx, zb⟩ := g7 (hdj 7 (by decide))
      have hbo := hbx.2.1 hL
      obtain ⟨ga, gk, gc, gf, rfl, -⟩ := (show DgS _ _ _ _ from hdg)
      refine wpOp_skip rfl rfl (run_st2 X a b 8 23 _ _ _ hbo xb xv) ?_
      show Il _ _ _ _ a0 (upd L 9) a _
      exact ⟨hF, c86, fun _ => hdj 7 (by decide), (hB.setCell hbx.1 _).setCell hbx.1 _, g0, g1, (fun h => by obtain ⟨v, e, r⟩ := g2 h; exact ⟨v, e, r.put hbo _⟩), g3, g4, (fun h => by obtain ⟨v, e, r⟩ := g5 h; exact ⟨v, e, r.put hbo _⟩), (fun h => by obtain ⟨b2, e2, r2, z2⟩ := g6 h; exact ⟨b2, e2, r2.put (Ne.symm (gd h (hdj 7 (by decide)) b2 b e2 xb).symm) hbo _, by simpa using z2⟩), (fun _ => ⟨b, xb, ⟨hbx.1, (fun h => by rw [upd_same] at h; cases h), fun _ => ⟨_, (hbo.set0 _).set _, hdg.put hbo _⟩⟩, by simpa using zb⟩), gd⟩
    · cases ho
  · intro L a X hI hall
    subst hops
    obtain ⟨hF, c86, c97, hB, g0, g1, g2, g3, g4, g5, g6, g7, gd⟩ := hI
    have hs : a.tmps.size = a0.tmps.size := hF.2.1
    obtain ⟨b, xb, hbx, zb⟩ := g6 (hall 6 (by simp))
    obtain ⟨b', xb', hbx', zb'⟩ := g7 (hall 7 (by simp))
    obtain ⟨v, h1, h2⟩ := hbx.2.2 (hall 8 (by simp))
    obtain ⟨v', h3, h4⟩ := hbx'.2.2 (hall 9 (by simp))
    rw [hF.eq [(18, a.eval (.tmp 18)), (19, a.eval (.tmp 19)), (20, a.eval (.tmp 20)), (21, a.eval (.tmp 21)), (22, a.eval (.tmp 22)), (23, a.eval (.tmp 23)), (7, .pointer (some ⟨b, 0, none⟩)), (8, .pointer (some ⟨b', 0, none⟩))] (by simp) (by simp [xb, xb']; omega)]
    exact hQ _ _ _ _ _ _ b b' v v' X hB hbx.1 hbx'.1 (gd (hall 6 (by simp)) (hall 7 (by simp)) b b' xb xb') h1 h2 h3 h4
end Go.Proofs.Ytohdfohnajifaaa
