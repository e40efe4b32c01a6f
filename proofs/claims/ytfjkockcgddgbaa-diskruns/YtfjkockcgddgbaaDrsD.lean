/- relstorelaw.disks: the regions with a call on each disk -/
import Derived.Test.YtfjkockcgddgbaaDrsB
import Derived.Test.YtfjkockcgddgbaaReg
namespace Go.Proofs.Ytfjkockcgddgbaa
open Go.RowKit Go.Lib
/- the state of a region in which two calls turn memory, one on each disk -/
structure TwoS (wc : World) (B b0 : Nat) (o : Obj) (cA cC : Nat) (Pp Pq Rp Rq : World → Prop) (L : Nat → Bool) (X : World) : Prop where
  bel : Below B wc X
  ob : X.heap[b0]? = some o
  low : B ≤ X.heap.size
  p0 : L cA = false → Pp X
  p1 : L cA = true → Pq X
  r0 : L cC = false → Rp X
  r1 : L cC = true → Rq X
theorem TwoS.other {wc X : World} {B b0 : Nat} {o : Obj} {cA cC i : Nat} {Pp Pq Rp Rq : World → Prop} {L : Nat → Bool} (S : TwoS wc B b0 o cA cC Pp Pq Rp Rq L X) (hA : ¬ cA = i) (hC : ¬ cC = i) : TwoS wc B b0 o cA cC Pp Pq Rp Rq (upd L i) X :=
  ⟨S.bel, S.ob, S.low, by rw [upd_ne _ hA]; exact S.p0, by rw [upd_ne _ hA]; exact S.p1, by rw [upd_ne _ hC]; exact S.r0, by rw [upd_ne _ hC]; exact S.r1⟩
theorem ob_lt {X : World} {b : Nat} {o : Obj} (h : X.heap[b]? = some o) : b < X.heap.size := (Array.getElem?_eq_some_iff.1 h).1
theorem TwoS.callA {wc X X' : World} {B b0 : Nat} {o : Obj} {cA cC : Nat} {Pp Pq Rp Rq : World → Prop} {L : Nat → Bool} (S : TwoS wc B b0 o cA cC Pp Pq Rp Rq L X) (hne : ¬ cC = cA) (hq : Pq X') (hb : BelT tyP B X X') (hf : farT tyP X b0)
    (hpC : ∀ w w', Rp w → BelT tyP B w w' → Rp w') (hqC : ∀ w w', Rq w → BelT tyP B w w' → Rq w') : TwoS wc B b0 o cA cC Pp Pq Rp Rq (upd L cA) X' :=
  ⟨S.bel.trans hb.toBelow, (hb.far b0 (ob_lt S.ob) hf).trans S.ob, Nat.le_trans S.low hb.size, (fun h => by rw [upd_same] at h; cases h), fun _ => hq, fun h => by rw [upd_ne _ hne] at h; exact hpC _ _ (S.r0 h) hb, fun h => by rw [upd_ne _ hne] at h; exact hqC _ _ (S.r1 h) hb⟩
theorem TwoS.callC {wc X X' : World} {B b0 : Nat} {o : Obj} {cA cC : Nat} {Pp Pq Rp Rq : World → Prop} {L : Nat → Bool} (S : TwoS wc B b0 o cA cC Pp Pq Rp Rq L X) (hne : ¬ cA = cC) (hq : Rq X') (hb : BelT tyR B X X') (hf : farT tyR X b0)
    (hpA : ∀ w w', Pp w → BelT tyR B w w' → Pp w') (hqA : ∀ w w', Pq w → BelT tyR B w w' → Pq w') : TwoS wc B b0 o cA cC Pp Pq Rp Rq (upd L cC) X' :=
  ⟨S.bel.trans hb.toBelow, (hb.far b0 (ob_lt S.ob) hf).trans S.ob, Nat.le_trans S.low hb.size, fun h => by rw [upd_ne _ hne] at h; exact hpA _ _ (S.p0 h) hb, fun h => by rw [upd_ne _ hne] at h; exact hqA _ _ (S.p1 h) hb, (fun h => by rw [upd_same] at h; cases h), fun _ => hq⟩
theorem rd_mv (X : World) (a : Act) (i d : Nat) (t : TypeId) (p : String) (f : Array Edge) {v : Value} (he : a.eval (.tmp i) = v) :
    (execOp a.eval { dst := some d, op := .move (.tmp i), type := t, pos := p, after := f, guard := none }).run Try.prog X = .ok (.value v) X := by
  subst he
  simp only [execOp]
  go_simp
theorem rd_as (X : World) (a : Act) (i d : Nat) (t : TypeId) (p : String) (f : Array Edge) {v : Value} (he : a.eval (.tmp i) = v) :
    (execOp a.eval { dst := some d, op := .assign (.tmp i), type := t, pos := p, after := f, guard := none }).run Try.prog X = .ok (.value v) X := by
  subst he
  simp only [execOp]
  go_simp
theorem rd_fa (X : World) (a : Act) (B i d k : Nat) (hk : k = 1 ∨ k = 2 ∨ k = 4) (t : TypeId) (p : String) (f : Array Edge) (he : a.eval (.tmp i) = .pointer (some ⟨B, 0, none⟩)) :
    (execOp a.eval { dst := some d, op := .fieldAddr 31 (.tmp i) k, type := t, pos := p, after := f, guard := none }).run Try.prog X = .ok (.value (.pointer (some ⟨B, k, none⟩))) X := by
  simp only [execOp, he]
  rcases hk with rfl | rfl | rfl <;> go_simp
theorem rd_ldI (X : World) (a : Act) (A : Addr) (i d : Nat) (t : TypeId) (p : String) (f : Array Edge) {v : Value} (he : a.eval (.tmp i) = .pointer (some A)) (hc : X.cell? A = some v) :
    (execOp a.eval { dst := some d, op := .load 3 (.tmp i), type := t, pos := p, after := f, guard := none }).run Try.prog X = .ok (.value v) X := by
  simp only [execOp, he]
  go_simp
theorem rd_ldS (X : World) (a : Act) (A : Addr) (i d : Nat) (t : TypeId) (p : String) (f : Array Edge) {v : Value} (he : a.eval (.tmp i) = .pointer (some A)) (hc : X.cell? A = some v) :
    (execOp a.eval { dst := some d, op := .load 9 (.tmp i), type := t, pos := p, after := f, guard := none }).run Try.prog X = .ok (.value v) X := by
  simp only [execOp, he]
  go_simp
theorem rd_eq (X : World) (a : Act) (i j d : Nat) (x : Int) (t : TypeId) (p : String) (f : Array Edge) (hi : a.eval (.tmp i) = .int .i64 x) (hj : a.eval (.tmp j) = .int .i64 x) :
    (execOp a.eval { dst := some d, op := .binOp .eql 3 (.tmp i) (.tmp j) 3, type := t, pos := p, after := f, guard := none }).run Try.prog X = .ok (.value (.bool true)) X := by
  simp only [execOp, hi, hj]
  go_simp
theorem rd_num (X : World) (a : Act) (i d : Nat) (t : TypeId) (p : String) (f : Array Edge) {u : Value} (hu : a.eval (.tmp i) = u) :
    (execOp a.eval { dst := some d, op := .call { callee := .value (.func 26), args := #[.tmp i], argTypes := #[37] }, type := t, pos := p, after := f, guard := none }).run Try.prog X = .ok (.enter 26 #[u]) X := by
  subst hu
  simp only [execOp]
  go_simp
theorem rd_AWrite (X : World) (a : Act) (i j k l d : Nat) (t : TypeId) (p : String) (f : Array Edge) {u v w z : Value} (hu : a.eval (.tmp i) = u) (hv : a.eval (.tmp j) = v) (hw : a.eval (.tmp k) = w) (hz : a.eval (.tmp l) = z) :
    (execOp a.eval { dst := some d, op := .call { callee := .value (.func 27), args := #[.tmp i, .tmp j, .tmp k, .tmp l], argTypes := #[23, 3, 3, 9] }, type := t, pos := p, after := f, guard := none }).run Try.prog X = .ok (.enter 27 #[u, v, w, z]) X := by
  subst hu hv hw hz
  simp only [execOp]
  go_simp
theorem rd_CWrite (X : World) (a : Act) (i j k l d : Nat) (t : TypeId) (p : String) (f : Array Edge) {u v w z : Value} (hu : a.eval (.tmp i) = u) (hv : a.eval (.tmp j) = v) (hw : a.eval (.tmp k) = w) (hz : a.eval (.tmp l) = z) :
    (execOp a.eval { dst := some d, op := .call { callee := .value (.func 28), args := #[.tmp i, .tmp j, .tmp k, .tmp l], argTypes := #[25, 3, 3, 9] }, type := t, pos := p, after := f, guard := none }).run Try.prog X = .ok (.enter 28 #[u, v, w, z]) X := by
  subst hu hv hw hz
  simp only [execOp]
  go_simp
def WregW (fi ai : Int) (s : ByteArray) (b0 D R : Nat) (E : Int) (L : Nat → Bool) (a : Act) : Prop :=
  (L 0 = true → a.eval (.tmp 53) = (.pointer (some ⟨D, 0, none⟩))) ∧
  (L 1 = true → a.eval (.tmp 54) = .pointer (some ⟨b0, 1, none⟩)) ∧
  (L 2 = true → a.eval (.tmp 55) = .int .i64 fi) ∧
  (L 3 = true → a.eval (.tmp 56) = .pointer (some ⟨b0, 2, none⟩)) ∧
  (L 4 = true → a.eval (.tmp 57) = .int .i64 ai) ∧
  (L 5 = true → a.eval (.tmp 58) = .pointer (some ⟨b0, 4, none⟩)) ∧
  (L 6 = true → a.eval (.tmp 59) = .string s) ∧
  (L 7 = true → a.eval (.tmp 60) = .int .i64 E) ∧
  (L 8 = true → a.eval (.tmp 61) = .int .i64 E) ∧
  (L 9 = true → a.eval (.tmp 62) = (.pointer (some ⟨R, 0, none⟩))) ∧
  (L 10 = true → a.eval (.tmp 63) = .pointer (some ⟨b0, 1, none⟩)) ∧
  (L 11 = true → a.eval (.tmp 64) = .int .i64 fi) ∧
  (L 12 = true → a.eval (.tmp 65) = .pointer (some ⟨b0, 2, none⟩)) ∧
  (L 13 = true → a.eval (.tmp 66) = .int .i64 ai) ∧
  (L 14 = true → a.eval (.tmp 67) = .pointer (some ⟨b0, 4, none⟩)) ∧
  (L 15 = true → a.eval (.tmp 68) = .string s) ∧
  (L 16 = true → a.eval (.tmp 69) = .int .i64 E) ∧
  (L 17 = true → a.eval (.tmp 70) = .bool true) ∧
  (L 18 = true → a.eval (.tmp 6) = .bool true)
def IregW (fi ai : Int) (s : ByteArray) (b0 D R : Nat) (E : Int) (wc : World) (B : Nat) (ob : Obj) (Pp Pq Rp Rq : World → Prop) (a0 : Act) (L : Nat → Bool) (a : Act) (X : World) : Prop := Fr [53, 54, 55, 56, 57, 58, 59, 60, 61, 62, 63, 64, 65, 66, 67, 68, 69, 70, 6] a0 a ∧ TwoS wc B b0 ob 7 16 Pp Pq Rp Rq L X ∧ WregW fi ai s b0 D R E L a
set_option maxHeartbeats 4000000 in
theorem regW {Q : Exit → Act → World → Prop} {ops : Array Oper} {id : Nat} {a0 : Act} {wc : World} (fi ai ni : Int) (s t : ByteArray) (kv cv : Value) (k : Int) (b0 B D R : Nat) (E : Int) (Pp Pq Rp Rq : World → Prop)
    (hob : wc.heap[b0]? = some (.cells #[.int .i64 k, .int .i64 fi, .int .i64 ai, .int .i64 ni, .string s, .string t, kv, cv] 31 (0, 0))) (hB : B ≤ wc.heap.size) (hP : Pp wc.drew) (hR : Rp wc.drew)
    (hA : ∀ w, B ≤ w.heap.size → Pp w → Calls Try.prog 27 #[(.pointer (some ⟨D, 0, none⟩)), .int .i64 fi, .int .i64 ai, .string s] w fun e w' => e = .returned (.int .i64 E) ∧ Pq w' ∧ BelT tyP B w w') (hC : ∀ w, B ≤ w.heap.size → Rp w → Calls Try.prog 28 #[(.pointer (some ⟨R, 0, none⟩)), .int .i64 fi, .int .i64 ai, .string s] w fun e w' => e = .returned (.int .i64 E) ∧ Rq w' ∧ BelT tyR B w w')
    (hpA : ∀ w w', Pp w → BelT tyR B w w' → Pp w') (hqA : ∀ w w', Pq w → BelT tyR B w w' → Pq w') (hpC : ∀ w w', Rp w → BelT tyP B w w' → Rp w') (hqC : ∀ w w', Rq w → BelT tyP B w w' → Rq w')
    (hsz : 70 < a0.tmps.size) (e0 : a0.eval (.tmp 0) = (.pointer (some ⟨D, 0, none⟩))) (e1 : a0.eval (.tmp 1) = (.pointer (some ⟨R, 0, none⟩))) (e5 : a0.eval (.tmp 5) = (.pointer (some ⟨b0, 0, none⟩)))
    {t0 t1 t2 t3 t4 t5 t6 t7 t8 t9 t10 t11 t12 t13 t14 t15 t16 t17 t18 : TypeId} {p0 p1 p2 p3 p4 p5 p6 p7 p8 p9 p10 p11 p12 p13 p14 p15 p16 p17 p18 : String} {f0 f1 f2 f3 f4 f5 f6 f7 f8 f9 f10 f11 f12 f13 f14 f15 f16 f17 f18 : Array Edge}
    (hops : ops = #[⟨some 53, .move (.tmp 0), t0, p0, f0, none⟩, ⟨some 54, .fieldAddr 31 (.tmp 5) 1, t1, p1, f1, none⟩, ⟨some 55, .load 3 (.tmp 54), t2, p2, f2, none⟩, ⟨some 56, .fieldAddr 31 (.tmp 5) 2, t3, p3, f3, none⟩, ⟨some 57, .load 3 (.tmp 56), t4, p4, f4, none⟩, ⟨some 58, .fieldAddr 31 (.tmp 5) 4, t5, p5, f5, none⟩, ⟨some 59, .load 9 (.tmp 58), t6, p6, f6, none⟩, ⟨some 60, .call { callee := .value (.func 27), args := #[.tmp 53, .tmp 55, .tmp 57, .tmp 59], argTypes := #[23, 3, 3, 9] }, t7, p7, f7, none⟩, ⟨some 61, .call { callee := .value (.func 26), args := #[.tmp 60], argTypes := #[37] }, t8, p8, f8, none⟩, ⟨some 62, .move (.tmp 1), t9, p9, f9, none⟩, ⟨some 63, .fieldAddr 31 (.tmp 5) 1, t10, p10, f10, none⟩, ⟨some 64, .load 3 (.tmp 63), t11, p11, f11, none⟩, ⟨some 65, .fieldAddr 31 (.tmp 5) 2, t12, p12, f12, none⟩, ⟨some 66, .load 3 (.tmp 65), t13, p13, f13, none⟩, ⟨some 67, .fieldAddr 31 (.tmp 5) 4, t14, p14, f14, none⟩, ⟨some 68, .load 9 (.tmp 67), t15, p15, f15, none⟩, ⟨some 69, .call { callee := .value (.func 28), args := #[.tmp 62, .tmp 64, .tmp 66, .tmp 68], argTypes := #[25, 3, 3, 9] }, t16, p16, f16, none⟩, ⟨some 70, .binOp .eql 3 (.tmp 61) (.tmp 69) 3, t17, p17, f17, none⟩, ⟨some 6, .assign (.tmp 70), t18, p18, f18, none⟩])
    (hb : backB ops = true) (d2 : depB f2 [1] = true) (d4 : depB f4 [3] = true) (d6 : depB f6 [5] = true) (d7 : depB f7 [0, 2, 4, 6] = true) (d8 : depB f8 [7] = true) (d11 : depB f11 [10] = true) (d13 : depB f13 [12] = true) (d15 : depB f15 [14] = true) (d16 : depB f16 [9, 11, 13, 15] = true) (d17 : depB f17 [8, 16] = true) (d18 : depB f18 [17] = true) (hm : Try.prog.follows .mixedOrders = true)
    (hQ : ∀ (b : Act) X, b.defers = a0.defers → b.eval (.tmp 6) = .bool true → Pq X → Rq X → Below B wc X → Q .normal b X) :
    (Code.region id ops true).wp Try.prog Q a0 wc := by
  refine wp_region_inv hm (IregW fi ai s b0 D R E wc B (.cells #[.int .i64 k, .int .i64 fi, .int .i64 ai, .int .i64 ni, .string s, .string t, kv, cv] 31 (0, 0)) Pp Pq Rp Rq) (backB_spec hb) ?_ ?_ ?_
  · refine ⟨Fr.refl _ _, ⟨(Below.refl _ _).drew, hob, hB, fun _ => hP, fun h => absurd h (by decide), fun _ => hR, fun h => absurd h (by decide)⟩, ?_⟩
    refine ⟨?_, ?_, ?_, ?_, ?_, ?_, ?_, ?_, ?_, ?_, ?_, ?_, ?_, ?_, ?_, ?_, ?_, ?_, ?_⟩ <;> intro h <;> exact absurd h (by decide)
  · intro L a X hI q o ho hL hd
    obtain ⟨hF, S, g0, g1, g2, g3, g4, g5, g6, g7, g8, g9, g10, g11, g12, g13, g14, g15, g16, g17, g18⟩ := hI
    have hs : a.tmps.size = a0.tmps.size := hF.2.1
    have E0 : a.eval (.tmp 0) = (.pointer (some ⟨D, 0, none⟩)) := by rw [hF.eval (by decide), e0]
    have E1 : a.eval (.tmp 1) = (.pointer (some ⟨R, 0, none⟩)) := by rw [hF.eval (by decide), e1]
    have E5 : a.eval (.tmp 5) = (.pointer (some ⟨b0, 0, none⟩)) := by rw [hF.eval (by decide), e5]
    have hob' := S.ob
    subst hops
    obtain _ | _ | _ | _ | _ | _ | _ | _ | _ | _ | _ | _ | _ | _ | _ | _ | _ | _ | _ | q := q
    · cases ho
      refine wpOp_value rfl rfl (rd_mv X a 0 53 _ _ _ E0) ?_
      show IregW _ _ _ _ _ _ _ _ _ _ _ _ _ _ a0 (upd L 0) (a.put (some 53) _) _
      exact ⟨hF.put (by decide) _, S.other (by decide) (by decide), (fun _ => eval_put_same (by omega) _), (fun h => by rw [eval_put_ne (by decide)]; exact g1 h), (fun h => by rw [eval_put_ne (by decide)]; exact g2 h), (fun h => by rw [eval_put_ne (by decide)]; exact g3 h), (fun h => by rw [eval_put_ne (by decide)]; exact g4 h), (fun h => by rw [eval_put_ne (by decide)]; exact g5 h), (fun h => by rw [eval_put_ne (by decide)]; exact g6 h), (fun h => by rw [eval_put_ne (by decide)]; exact g7 h), (fun h => by rw [eval_put_ne (by decide)]; exact g8 h), (fun h => by rw [eval_put_ne (by decide)]; exact g9 h), (fun h => by rw [eval_put_ne (by decide)]; exact g10 h), (fun h => by rw [eval_put_ne (by decide)]; exact g11 h), (fun h => by rw [eval_put_ne (by decide)]; exact g12 h), (fun h => by rw [eval_put_ne (by decide)]; exact g13 h), (fun h => by rw [eval_put_ne (by decide)]; exact g14 h), (fun h => by rw [eval_put_ne (by decide)]; exact g15 h), (fun h => by rw [eval_put_ne (by decide)]; exact g16 h), (fun h => by rw [eval_put_ne (by decide)]; exact g17 h), (fun h => by rw [eval_put_ne (by decide)]; exact g18 h)⟩
    · cases ho
      refine wpOp_value rfl rfl (rd_fa X a b0 5 54 1 (by decide) _ _ _ E5) ?_
      show IregW _ _ _ _ _ _ _ _ _ _ _ _ _ _ a0 (upd L 1) (a.put (some 54) _) _
      exact ⟨hF.put (by decide) _, S.other (by decide) (by decide), (fun h => by rw [eval_put_ne (by decide)]; exact g0 h), (fun _ => eval_put_same (by omega) _), (fun h => by rw [eval_put_ne (by decide)]; exact g2 h), (fun h => by rw [eval_put_ne (by decide)]; exact g3 h), (fun h => by rw [eval_put_ne (by decide)]; exact g4 h), (fun h => by rw [eval_put_ne (by decide)]; exact g5 h), (fun h => by rw [eval_put_ne (by decide)]; exact g6 h), (fun h => by rw [eval_put_ne (by decide)]; exact g7 h), (fun h => by rw [eval_put_ne (by decide)]; exact g8 h), (fun h => by rw [eval_put_ne (by decide)]; exact g9 h), (fun h => by rw [eval_put_ne (by decide)]; exact g10 h), (fun h => by rw [eval_put_ne (by decide)]; exact g11 h), (fun h => by rw [eval_put_ne (by decide)]; exact g12 h), (fun h => by rw [eval_put_ne (by decide)]; exact g13 h), (fun h => by rw [eval_put_ne (by decide)]; exact g14 h), (fun h => by rw [eval_put_ne (by decide)]; exact g15 h), (fun h => by rw [eval_put_ne (by decide)]; exact g16 h), (fun h => by rw [eval_put_ne (by decide)]; exact g17 h), (fun h => by rw [eval_put_ne (by decide)]; exact g18 h)⟩
    · cases ho
      have hdj := depB_spec d2 hd
      have r1 := g1 (hdj 1 (by decide))
      refine wpOp_value rfl rfl (rd_ldI (v := .int .i64 fi) X a ⟨b0, 1, none⟩ 54 55 _ _ _ r1 (by simp [World.cell?, hob'])) ?_
      show IregW _ _ _ _ _ _ _ _ _ _ _ _ _ _ a0 (upd L 2) (a.put (some 55) _) _
      exact ⟨hF.put (by decide) _, S.other (by decide) (by decide), (fun h => by rw [eval_put_ne (by decide)]; exact g0 h), (fun h => by rw [eval_put_ne (by decide)]; exact g1 h), (fun _ => eval_put_same (by omega) _), (fun h => by rw [eval_put_ne (by decide)]; exact g3 h), (fun h => by rw [eval_put_ne (by decide)]; exact g4 h), (fun h => by rw [eval_put_ne (by decide)]; exact g5 h), (fun h => by rw [eval_put_ne (by decide)]; exact g6 h), (fun h => by rw [eval_put_ne (by decide)]; exact g7 h), (fun h => by rw [eval_put_ne (by decide)]; exact g8 h), (fun h => by rw [eval_put_ne (by decide)]; exact g9 h), (fun h => by rw [eval_put_ne (by decide)]; exact g10 h), (fun h => by rw [eval_put_ne (by decide)]; exact g11 h), (fun h => by rw [eval_put_ne (by decide)]; exact g12 h), (fun h => by rw [eval_put_ne (by decide)]; exact g13 h), (fun h => by rw [eval_put_ne (by decide)]; exact g14 h), (fun h => by rw [eval_put_ne (by decide)]; exact g15 h), (fun h => by rw [eval_put_ne (by decide)]; exact g16 h), (fun h => by rw [eval_put_ne (by decide)]; exact g17 h), (fun h => by rw [eval_put_ne (by decide)]; exact g18 h)⟩
    · cases ho
      refine wpOp_value rfl rfl (rd_fa X a b0 5 56 2 (by decide) _ _ _ E5) ?_
      show IregW _ _ _ _ _ _ _ _ _ _ _ _ _ _ a0 (upd L 3) (a.put (some 56) _) _
      exact ⟨hF.put (by decide) _, S.other (by decide) (by decide), (fun h => by rw [eval_put_ne (by decide)]; exact g0 h), (fun h => by rw [eval_put_ne (by decide)]; exact g1 h), (fun h => by rw [eval_put_ne (by decide)]; exact g2 h), (fun _ => eval_put_same (by omega) _), (fun h => by rw [eval_put_ne (by decide)]; exact g4 h), (fun h => by rw [eval_put_ne (by decide)]; exact g5 h), (fun h => by rw [eval_put_ne (by decide)]; exact g6 h), (fun h => by rw [eval_put_ne (by decide)]; exact g7 h), (fun h => by rw [eval_put_ne (by decide)]; exact g8 h), (fun h => by rw [eval_put_ne (by decide)]; exact g9 h), (fun h => by rw [eval_put_ne (by decide)]; exact g10 h), (fun h => by rw [eval_put_ne (by decide)]; exact g11 h), (fun h => by rw [eval_put_ne (by decide)]; exact g12 h), (fun h => by rw [eval_put_ne (by decide)]; exact g13 h), (fun h => by rw [eval_put_ne (by decide)]; exact g14 h), (fun h => by rw [eval_put_ne (by decide)]; exact g15 h), (fun h => by rw [eval_put_ne (by decide)]; exact g16 h), (fun h => by rw [eval_put_ne (by decide)]; exact g17 h), (fun h => by rw [eval_put_ne (by decide)]; exact g18 h)⟩
    · cases ho
      have hdj := depB_spec d4 hd
      have r3 := g3 (hdj 3 (by decide))
      refine wpOp_value rfl rfl (rd_ldI (v := .int .i64 ai) X a ⟨b0, 2, none⟩ 56 57 _ _ _ r3 (by simp [World.cell?, hob'])) ?_
      show IregW _ _ _ _ _ _ _ _ _ _ _ _ _ _ a0 (upd L 4) (a.put (some 57) _) _
      exact ⟨hF.put (by decide) _, S.other (by decide) (by decide), (fun h => by rw [eval_put_ne (by decide)]; exact g0 h), (fun h => by rw [eval_put_ne (by decide)]; exact g1 h), (fun h => by rw [eval_put_ne (by decide)]; exact g2 h), (fun h => by rw [eval_put_ne (by decide)]; exact g3 h), (fun _ => eval_put_same (by omega) _), (fun h => by rw [eval_put_ne (by decide)]; exact g5 h), (fun h => by rw [eval_put_ne (by decide)]; exact g6 h), (fun h => by rw [eval_put_ne (by decide)]; exact g7 h), (fun h => by rw [eval_put_ne (by decide)]; exact g8 h), (fun h => by rw [eval_put_ne (by decide)]; exact g9 h), (fun h => by rw [eval_put_ne (by decide)]; exact g10 h), (fun h => by rw [eval_put_ne (by decide)]; exact g11 h), (fun h => by rw [eval_put_ne (by decide)]; exact g12 h), (fun h => by rw [eval_put_ne (by decide)]; exact g13 h), (fun h => by rw [eval_put_ne (by decide)]; exact g14 h), (fun h => by rw [eval_put_ne (by decide)]; exact g15 h), (fun h => by rw [eval_put_ne (by decide)]; exact g16 h), (fun h => by rw [eval_put_ne (by decide)]; exact g17 h), (fun h => by rw [eval_put_ne (by decide)]; exact g18 h)⟩
    · cases ho
      refine wpOp_value rfl rfl (rd_fa X a b0 5 58 4 (by decide) _ _ _ E5) ?_
      show IregW _ _ _ _ _ _ _ _ _ _ _ _ _ _ a0 (upd L 5) (a.put (some 58) _) _
      exact ⟨hF.put (by decide) _, S.other (by decide) (by decide), (fun h => by rw [eval_put_ne (by decide)]; exact g0 h), (fun h => by rw [eval_put_ne (by decide)]; exact g1 h), (fun h => by rw [eval_put_ne (by decide)]; exact g2 h), (fun h => by rw [eval_put_ne (by decide)]; exact g3 h), (fun h => by rw [eval_put_ne (by decide)]; exact g4 h), (fun _ => eval_put_same (by omega) _), (fun h => by rw [eval_put_ne (by decide)]; exact g6 h), (fun h => by rw [eval_put_ne (by decide)]; exact g7 h), (fun h => by rw [eval_put_ne (by decide)]; exact g8 h), (fun h => by rw [eval_put_ne (by decide)]; exact g9 h), (fun h => by rw [eval_put_ne (by decide)]; exact g10 h), (fun h => by rw [eval_put_ne (by decide)]; exact g11 h), (fun h => by rw [eval_put_ne (by decide)]; exact g12 h), (fun h => by rw [eval_put_ne (by decide)]; exact g13 h), (fun h => by rw [eval_put_ne (by decide)]; exact g14 h), (fun h => by rw [eval_put_ne (by decide)]; exact g15 h), (fun h => by rw [eval_put_ne (by decide)]; exact g16 h), (fun h => by rw [eval_put_ne (by decide)]; exact g17 h), (fun h => by rw [eval_put_ne (by decide)]; exact g18 h)⟩
    · cases ho
      have hdj := depB_spec d6 hd
      have r5 := g5 (hdj 5 (by decide))
      refine wpOp_value rfl rfl (rd_ldS (v := .string s) X a ⟨b0, 4, none⟩ 58 59 _ _ _ r5 (by simp [World.cell?, hob'])) ?_
      show IregW _ _ _ _ _ _ _ _ _ _ _ _ _ _ a0 (upd L 6) (a.put (some 59) _) _
      exact ⟨hF.put (by decide) _, S.other (by decide) (by decide), (fun h => by rw [eval_put_ne (by decide)]; exact g0 h), (fun h => by rw [eval_put_ne (by decide)]; exact g1 h), (fun h => by rw [eval_put_ne (by decide)]; exact g2 h), (fun h => by rw [eval_put_ne (by decide)]; exact g3 h), (fun h => by rw [eval_put_ne (by decide)]; exact g4 h), (fun h => by rw [eval_put_ne (by decide)]; exact g5 h), (fun _ => eval_put_same (by omega) _), (fun h => by rw [eval_put_ne (by decide)]; exact g7 h), (fun h => by rw [eval_put_ne (by decide)]; exact g8 h), (fun h => by rw [eval_put_ne (by decide)]; exact g9 h), (fun h => by rw [eval_put_ne (by decide)]; exact g10 h), (fun h => by rw [eval_put_ne (by decide)]; exact g11 h), (fun h => by rw [eval_put_ne (by decide)]; exact g12 h), (fun h => by rw [eval_put_ne (by decide)]; exact g13 h), (fun h => by rw [eval_put_ne (by decide)]; exact g14 h), (fun h => by rw [eval_put_ne (by decide)]; exact g15 h), (fun h => by rw [eval_put_ne (by decide)]; exact g16 h), (fun h => by rw [eval_put_ne (by decide)]; exact g17 h), (fun h => by rw [eval_put_ne (by decide)]; exact g18 h)⟩
    · cases ho
      have hdj := depB_spec d7 hd
      have r0 := g0 (hdj 0 (by decide))
      have r2 := g2 (hdj 2 (by decide))
      have r4 := g4 (hdj 4 (by decide))
      have r6 := g6 (hdj 6 (by decide))
      refine wpOp_call (R := fun u X' => u = .int .i64 E ∧ Pq X' ∧ BelT tyP B X X') rfl rfl (rd_AWrite X a 53 55 57 59 60 _ _ _ r0 r2 r4 r6) ((hA X S.low (S.p0 hL)).mono fun e X' h => ⟨_, h.1, rfl, h.2⟩) ?_
      rintro u X' ⟨rfl, hq', hb'⟩
      show IregW _ _ _ _ _ _ _ _ _ _ _ _ _ _ a0 (upd L 7) (a.put (some 60) _) _
      exact ⟨hF.put (by decide) _, S.callA (by decide) hq' hb' (far_blk (by decide) S.ob) hpC hqC, (fun h => by rw [eval_put_ne (by decide)]; exact g0 h), (fun h => by rw [eval_put_ne (by decide)]; exact g1 h), (fun h => by rw [eval_put_ne (by decide)]; exact g2 h), (fun h => by rw [eval_put_ne (by decide)]; exact g3 h), (fun h => by rw [eval_put_ne (by decide)]; exact g4 h), (fun h => by rw [eval_put_ne (by decide)]; exact g5 h), (fun h => by rw [eval_put_ne (by decide)]; exact g6 h), (fun _ => eval_put_same (by omega) _), (fun h => by rw [eval_put_ne (by decide)]; exact g8 h), (fun h => by rw [eval_put_ne (by decide)]; exact g9 h), (fun h => by rw [eval_put_ne (by decide)]; exact g10 h), (fun h => by rw [eval_put_ne (by decide)]; exact g11 h), (fun h => by rw [eval_put_ne (by decide)]; exact g12 h), (fun h => by rw [eval_put_ne (by decide)]; exact g13 h), (fun h => by rw [eval_put_ne (by decide)]; exact g14 h), (fun h => by rw [eval_put_ne (by decide)]; exact g15 h), (fun h => by rw [eval_put_ne (by decide)]; exact g16 h), (fun h => by rw [eval_put_ne (by decide)]; exact g17 h), (fun h => by rw [eval_put_ne (by decide)]; exact g18 h)⟩
    · cases ho
      have hdj := depB_spec d8 hd
      have r7 := g7 (hdj 7 (by decide))
      refine wpOp_call (R := fun u X' => u = .int .i64 E ∧ X' = X) rfl rfl (rd_num X a 60 61 _ _ _ r7) ((dnum E X).mono fun e X' h => ⟨_, h.1, rfl, h.2⟩) ?_
      rintro u X' ⟨rfl, rfl⟩
      show IregW _ _ _ _ _ _ _ _ _ _ _ _ _ _ a0 (upd L 8) (a.put (some 61) _) _
      exact ⟨hF.put (by decide) _, S.other (by decide) (by decide), (fun h => by rw [eval_put_ne (by decide)]; exact g0 h), (fun h => by rw [eval_put_ne (by decide)]; exact g1 h), (fun h => by rw [eval_put_ne (by decide)]; exact g2 h), (fun h => by rw [eval_put_ne (by decide)]; exact g3 h), (fun h => by rw [eval_put_ne (by decide)]; exact g4 h), (fun h => by rw [eval_put_ne (by decide)]; exact g5 h), (fun h => by rw [eval_put_ne (by decide)]; exact g6 h), (fun h => by rw [eval_put_ne (by decide)]; exact g7 h), (fun _ => eval_put_same (by omega) _), (fun h => by rw [eval_put_ne (by decide)]; exact g9 h), (fun h => by rw [eval_put_ne (by decide)]; exact g10 h), (fun h => by rw [eval_put_ne (by decide)]; exact g11 h), (fun h => by rw [eval_put_ne (by decide)]; exact g12 h), (fun h => by rw [eval_put_ne (by decide)]; exact g13 h), (fun h => by rw [eval_put_ne (by decide)]; exact g14 h), (fun h => by rw [eval_put_ne (by decide)]; exact g15 h), (fun h => by rw [eval_put_ne (by decide)]; exact g16 h), (fun h => by rw [eval_put_ne (by decide)]; exact g17 h), (fun h => by rw [eval_put_ne (by decide)]; exact g18 h)⟩
    · cases ho
      refine wpOp_value rfl rfl (rd_mv X a 1 62 _ _ _ E1) ?_
      show IregW _ _ _ _ _ _ _ _ _ _ _ _ _ _ a0 (upd L 9) (a.put (some 62) _) _
      exact ⟨hF.put (by decide) _, S.other (by decide) (by decide), (fun h => by rw [eval_put_ne (by decide)]; exact g0 h), (fun h => by rw [eval_put_ne (by decide)]; exact g1 h), (fun h => by rw [eval_put_ne (by decide)]; exact g2 h), (fun h => by rw [eval_put_ne (by decide)]; exact g3 h), (fun h => by rw [eval_put_ne (by decide)]; exact g4 h), (fun h => by rw [eval_put_ne (by decide)]; exact g5 h), (fun h => by rw [eval_put_ne (by decide)]; exact g6 h), (fun h => by rw [eval_put_ne (by decide)]; exact g7 h), (fun h => by rw [eval_put_ne (by decide)]; exact g8 h), (fun _ => eval_put_same (by omega) _), (fun h => by rw [eval_put_ne (by decide)]; exact g10 h), (fun h => by rw [eval_put_ne (by decide)]; exact g11 h), (fun h => by rw [eval_put_ne (by decide)]; exact g12 h), (fun h => by rw [eval_put_ne (by decide)]; exact g13 h), (fun h => by rw [eval_put_ne (by decide)]; exact g14 h), (fun h => by rw [eval_put_ne (by decide)]; exact g15 h), (fun h => by rw [eval_put_ne (by decide)]; exact g16 h), (fun h => by rw [eval_put_ne (by decide)]; exact g17 h), (fun h => by rw [eval_put_ne (by decide)]; exact g18 h)⟩
    · cases ho
      refine wpOp_value rfl rfl (rd_fa X a b0 5 63 1 (by decide) _ _ _ E5) ?_
      show IregW _ _ _ _ _ _ _ _ _ _ _ _ _ _ a0 (upd L 10) (a.put (some 63) _) _
      exact ⟨hF.put (by decide) _, S.other (by decide) (by decide), (fun h => by rw [eval_put_ne (by decide)]; exact g0 h), (fun h => by rw [eval_put_ne (by decide)]; exact g1 h), (fun h => by rw [eval_put_ne (by decide)]; exact g2 h), (fun h => by rw [eval_put_ne (by decide)]; exact g3 h), (fun h => by rw [eval_put_ne (by decide)]; exact g4 h), (fun h => by rw [eval_put_ne (by decide)]; exact g5 h), (fun h => by rw [eval_put_ne (by decide)]; exact g6 h), (fun h => by rw [eval_put_ne (by decide)]; exact g7 h), (fun h => by rw [eval_put_ne (by decide)]; exact g8 h), (fun h => by rw [eval_put_ne (by decide)]; exact g9 h), (fun _ => eval_put_same (by omega) _), (fun h => by rw [eval_put_ne (by decide)]; exact g11 h), (fun h => by rw [eval_put_ne (by decide)]; exact g12 h), (fun h => by rw [eval_put_ne (by decide)]; exact g13 h), (fun h => by rw [eval_put_ne (by decide)]; exact g14 h), (fun h => by rw [eval_put_ne (by decide)]; exact g15 h), (fun h => by rw [eval_put_ne (by decide)]; exact g16 h), (fun h => by rw [eval_put_ne (by decide)]; exact g17 h), (fun h => by rw [eval_put_ne (by decide)]; exact g18 h)⟩
    · cases ho
      have hdj := depB_spec d11 hd
      have r10 := g10 (hdj 10 (by decide))
      refine wpOp_value rfl rfl (rd_ldI (v := .int .i64 fi) X a ⟨b0, 1, none⟩ 63 64 _ _ _ r10 (by simp [World.cell?, hob'])) ?_
      show IregW _ _ _ _ _ _ _ _ _ _ _ _ _ _ a0 (upd L 11) (a.put (some 64) _) _
      exact ⟨hF.put (by decide) _, S.other (by decide) (by decide), (fun h => by rw [eval_put_ne (by decide)]; exact g0 h), (fun h => by rw [eval_put_ne (by decide)]; exact g1 h), (fun h => by rw [eval_put_ne (by decide)]; exact g2 h), (fun h => by rw [eval_put_ne (by decide)]; exact g3 h), (fun h => by rw [eval_put_ne (by decide)]; exact g4 h), (fun h => by rw [eval_put_ne (by decide)]; exact g5 h), (fun h => by rw [eval_put_ne (by decide)]; exact g6 h), (fun h => by rw [eval_put_ne (by decide)]; exact g7 h), (fun h => by rw [eval_put_ne (by decide)]; exact g8 h), (fun h => by rw [eval_put_ne (by decide)]; exact g9 h), (fun h => by rw [eval_put_ne (by decide)]; exact g10 h), (fun _ => eval_put_same (by omega) _), (fun h => by rw [eval_put_ne (by decide)]; exact g12 h), (fun h => by rw [eval_put_ne (by decide)]; exact g13 h), (fun h => by rw [eval_put_ne (by decide)]; exact g14 h), (fun h => by rw [eval_put_ne (by decide)]; exact g15 h), (fun h => by rw [eval_put_ne (by decide)]; exact g16 h), (fun h => by rw [eval_put_ne (by decide)]; exact g17 h), (fun h => by rw [eval_put_ne (by decide)]; exact g18 h)⟩
    · cases ho
      refine wpOp_value rfl rfl (rd_fa X a b0 5 65 2 (by decide) _ _ _ E5) ?_
      show IregW _ _ _ _ _ _ _ _ _ _ _ _ _ _ a0 (upd L 12) (a.put (some 65) _) _
      exact ⟨hF.put (by decide) _, S.other (by decide) (by decide), (fun h => by rw [eval_put_ne (by decide)]; exact g0 h), (fun h => by rw [eval_put_ne (by decide)]; exact g1 h), (fun h => by rw [eval_put_ne (by decide)]; exact g2 h), (fun h => by rw [eval_put_ne (by decide)]; exact g3 h), (fun h => by rw [eval_put_ne (by decide)]; exact g4 h), (fun h => by rw [eval_put_ne (by decide)]; exact g5 h), (fun h => by rw [eval_put_ne (by decide)]; exact g6 h), (fun h => by rw [eval_put_ne (by decide)]; exact g7 h), (fun h => by rw [eval_put_ne (by decide)]; exact g8 h), (fun h => by rw [eval_put_ne (by decide)]; exact g9 h), (fun h => by rw [eval_put_ne (by decide)]; exact g10 h), (fun h => by rw [eval_put_ne (by decide)]; exact g11 h), (fun _ => eval_put_same (by omega) _), (fun h => by rw [eval_put_ne (by decide)]; exact g13 h), (fun h => by rw [eval_put_ne (by decide)]; exact g14 h), (fun h => by rw [eval_put_ne (by decide)]; exact g15 h), (fun h => by rw [eval_put_ne (by decide)]; exact g16 h), (fun h => by rw [eval_put_ne (by decide)]; exact g17 h), (fun h => by rw [eval_put_ne (by decide)]; exact g18 h)⟩
    · cases ho
      have hdj := depB_spec d13 hd
      have r12 := g12 (hdj 12 (by decide))
      refine wpOp_value rfl rfl (rd_ldI (v := .int .i64 ai) X a ⟨b0, 2, none⟩ 65 66 _ _ _ r12 (by simp [World.cell?, hob'])) ?_
      show IregW _ _ _ _ _ _ _ _ _ _ _ _ _ _ a0 (upd L 13) (a.put (some 66) _) _
      exact ⟨hF.put (by decide) _, S.other (by decide) (by decide), (fun h => by rw [eval_put_ne (by decide)]; exact g0 h), (fun h => by rw [eval_put_ne (by decide)]; exact g1 h), (fun h => by rw [eval_put_ne (by decide)]; exact g2 h), (fun h => by rw [eval_put_ne (by decide)]; exact g3 h), (fun h => by rw [eval_put_ne (by decide)]; exact g4 h), (fun h => by rw [eval_put_ne (by decide)]; exact g5 h), (fun h => by rw [eval_put_ne (by decide)]; exact g6 h), (fun h => by rw [eval_put_ne (by decide)]; exact g7 h), (fun h => by rw [eval_put_ne (by decide)]; exact g8 h), (fun h => by rw [eval_put_ne (by decide)]; exact g9 h), (fun h => by rw [eval_put_ne (by decide)]; exact g10 h), (fun h => by rw [eval_put_ne (by decide)]; exact g11 h), (fun h => by rw [eval_put_ne (by decide)]; exact g12 h), (fun _ => eval_put_same (by omega) _), (fun h => by rw [eval_put_ne (by decide)]; exact g14 h), (fun h => by rw [eval_put_ne (by decide)]; exact g15 h), (fun h => by rw [eval_put_ne (by decide)]; exact g16 h), (fun h => by rw [eval_put_ne (by decide)]; exact g17 h), (fun h => by rw [eval_put_ne (by decide)]; exact g18 h)⟩
    · cases ho
      refine wpOp_value rfl rfl (rd_fa X a b0 5 67 4 (by decide) _ _ _ E5) ?_
      show IregW _ _ _ _ _ _ _ _ _ _ _ _ _ _ a0 (upd L 14) (a.put (some 67) _) _
      exact ⟨hF.put (by decide) _, S.other (by decide) (by decide), (fun h => by rw [eval_put_ne (by decide)]; exact g0 h), (fun h => by rw [eval_put_ne (by decide)]; exact g1 h), (fun h => by rw [eval_put_ne (by decide)]; exact g2 h), (fun h => by rw [eval_put_ne (by decide)]; exact g3 h), (fun h => by rw [eval_put_ne (by decide)]; exact g4 h), (fun h => by rw [eval_put_ne (by decide)]; exact g5 h), (fun h => by rw [eval_put_ne (by decide)]; exact g6 h), (fun h => by rw [eval_put_ne (by decide)]; exact g7 h), (fun h => by rw [eval_put_ne (by decide)]; exact g8 h), (fun h => by rw [eval_put_ne (by decide)]; exact g9 h), (fun h => by rw [eval_put_ne (by decide)]; exact g10 h), (fun h => by rw [eval_put_ne (by decide)]; exact g11 h), (fun h => by rw [eval_put_ne (by decide)]; exact g12 h), (fun h => by rw [eval_put_ne (by decide)]; exact g13 h), (fun _ => eval_put_same (by omega) _), (fun h => by rw [eval_put_ne (by decide)]; exact g15 h), (fun h => by rw [eval_put_ne (by decide)]; exact g16 h), (fun h => by rw [eval_put_ne (by decide)]; exact g17 h), (fun h => by rw [eval_put_ne (by decide)]; exact g18 h)⟩
    · cases ho
      have hdj := depB_spec d15 hd
      have r14 := g14 (hdj 14 (by decide))
      refine wpOp_value rfl rfl (rd_ldS (v := .string s) X a ⟨b0, 4, none⟩ 67 68 _ _ _ r14 (by simp [World.cell?, hob'])) ?_
      show IregW _ _ _ _ _ _ _ _ _ _ _ _ _ _ a0 (upd L 15) (a.put (some 68) _) _
      exact ⟨hF.put (by decide) _, S.other (by decide) (by decide), (fun h => by rw [eval_put_ne (by decide)]; exact g0 h), (fun h => by rw [eval_put_ne (by decide)]; exact g1 h), (fun h => by rw [eval_put_ne (by decide)]; exact g2 h), (fun h => by rw [eval_put_ne (by decide)]; exact g3 h), (fun h => by rw [eval_put_ne (by decide)]; exact g4 h), (fun h => by rw [eval_put_ne (by decide)]; exact g5 h), (fun h => by rw [eval_put_ne (by decide)]; exact g6 h), (fun h => by rw [eval_put_ne (by decide)]; exact g7 h), (fun h => by rw [eval_put_ne (by decide)]; exact g8 h), (fun h => by rw [eval_put_ne (by decide)]; exact g9 h), (fun h => by rw [eval_put_ne (by decide)]; exact g10 h), (fun h => by rw [eval_put_ne (by decide)]; exact g11 h), (fun h => by rw [eval_put_ne (by decide)]; exact g12 h), (fun h => by rw [eval_put_ne (by decide)]; exact g13 h), (fun h => by rw [eval_put_ne (by decide)]; exact g14 h), (fun _ => eval_put_same (by omega) _), (fun h => by rw [eval_put_ne (by decide)]; exact g16 h), (fun h => by rw [eval_put_ne (by decide)]; exact g17 h), (fun h => by rw [eval_put_ne (by decide)]; exact g18 h)⟩
    · cases ho
      have hdj := depB_spec d16 hd
      have r9 := g9 (hdj 9 (by decide))
      have r11 := g11 (hdj 11 (by decide))
      have r13 := g13 (hdj 13 (by decide))
      have r15 := g15 (hdj 15 (by decide))
      refine wpOp_call (R := fun u X' => u = .int .i64 E ∧ Rq X' ∧ BelT tyR B X X') rfl rfl (rd_CWrite X a 62 64 66 68 69 _ _ _ r9 r11 r13 r15) ((hC X S.low (S.r0 hL)).mono fun e X' h => ⟨_, h.1, rfl, h.2⟩) ?_
      rintro u X' ⟨rfl, hq', hb'⟩
      show IregW _ _ _ _ _ _ _ _ _ _ _ _ _ _ a0 (upd L 16) (a.put (some 69) _) _
      exact ⟨hF.put (by decide) _, S.callC (by decide) hq' hb' (far_blk (by decide) S.ob) hpA hqA, (fun h => by rw [eval_put_ne (by decide)]; exact g0 h), (fun h => by rw [eval_put_ne (by decide)]; exact g1 h), (fun h => by rw [eval_put_ne (by decide)]; exact g2 h), (fun h => by rw [eval_put_ne (by decide)]; exact g3 h), (fun h => by rw [eval_put_ne (by decide)]; exact g4 h), (fun h => by rw [eval_put_ne (by decide)]; exact g5 h), (fun h => by rw [eval_put_ne (by decide)]; exact g6 h), (fun h => by rw [eval_put_ne (by decide)]; exact g7 h), (fun h => by rw [eval_put_ne (by decide)]; exact g8 h), (fun h => by rw [eval_put_ne (by decide)]; exact g9 h), (fun h => by rw [eval_put_ne (by decide)]; exact g10 h), (fun h => by rw [eval_put_ne (by decide)]; exact g11 h), (fun h => by rw [eval_put_ne (by decide)]; exact g12 h), (fun h => by rw [eval_put_ne (by decide)]; exact g13 h), (fun h => by rw [eval_put_ne (by decide)]; exact g14 h), (fun h => by rw [eval_put_ne (by decide)]; exact g15 h), (fun _ => eval_put_same (by omega) _), (fun h => by rw [eval_put_ne (by decide)]; exact g17 h), (fun h => by rw [eval_put_ne (by decide)]; exact g18 h)⟩
    · cases ho
      have hdj := depB_spec d17 hd
      have r8 := g8 (hdj 8 (by decide))
      have r16 := g16 (hdj 16 (by decide))
      refine wpOp_value rfl rfl (rd_eq X a 61 69 70 E _ _ _ r8 r16) ?_
      show IregW _ _ _ _ _ _ _ _ _ _ _ _ _ _ a0 (upd L 17) (a.put (some 70) _) _
      exact ⟨hF.put (by decide) _, S.other (by decide) (by decide), (fun h => by rw [eval_put_ne (by decide)]; exact g0 h), (fun h => by rw [eval_put_ne (by decide)]; exact g1 h), (fun h => by rw [eval_put_ne (by decide)]; exact g2 h), (fun h => by rw [eval_put_ne (by decide)]; exact g3 h), (fun h => by rw [eval_put_ne (by decide)]; exact g4 h), (fun h => by rw [eval_put_ne (by decide)]; exact g5 h), (fun h => by rw [eval_put_ne (by decide)]; exact g6 h), (fun h => by rw [eval_put_ne (by decide)]; exact g7 h), (fun h => by rw [eval_put_ne (by decide)]; exact g8 h), (fun h => by rw [eval_put_ne (by decide)]; exact g9 h), (fun h => by rw [eval_put_ne (by decide)]; exact g10 h), (fun h => by rw [eval_put_ne (by decide)]; exact g11 h), (fun h => by rw [eval_put_ne (by decide)]; exact g12 h), (fun h => by rw [eval_put_ne (by decide)]; exact g13 h), (fun h => by rw [eval_put_ne (by decide)]; exact g14 h), (fun h => by rw [eval_put_ne (by decide)]; exact g15 h), (fun h => by rw [eval_put_ne (by decide)]; exact g16 h), (fun _ => eval_put_same (by omega) _), (fun h => by rw [eval_put_ne (by decide)]; exact g18 h)⟩
    · cases ho
      have hdj := depB_spec d18 hd
      have r17 := g17 (hdj 17 (by decide))
      refine wpOp_value rfl rfl (rd_as X a 70 6 _ _ _ r17) ?_
      show IregW _ _ _ _ _ _ _ _ _ _ _ _ _ _ a0 (upd L 18) (a.put (some 6) _) _
      exact ⟨hF.put (by decide) _, S.other (by decide) (by decide), (fun h => by rw [eval_put_ne (by decide)]; exact g0 h), (fun h => by rw [eval_put_ne (by decide)]; exact g1 h), (fun h => by rw [eval_put_ne (by decide)]; exact g2 h), (fun h => by rw [eval_put_ne (by decide)]; exact g3 h), (fun h => by rw [eval_put_ne (by decide)]; exact g4 h), (fun h => by rw [eval_put_ne (by decide)]; exact g5 h), (fun h => by rw [eval_put_ne (by decide)]; exact g6 h), (fun h => by rw [eval_put_ne (by decide)]; exact g7 h), (fun h => by rw [eval_put_ne (by decide)]; exact g8 h), (fun h => by rw [eval_put_ne (by decide)]; exact g9 h), (fun h => by rw [eval_put_ne (by decide)]; exact g10 h), (fun h => by rw [eval_put_ne (by decide)]; exact g11 h), (fun h => by rw [eval_put_ne (by decide)]; exact g12 h), (fun h => by rw [eval_put_ne (by decide)]; exact g13 h), (fun h => by rw [eval_put_ne (by decide)]; exact g14 h), (fun h => by rw [eval_put_ne (by decide)]; exact g15 h), (fun h => by rw [eval_put_ne (by decide)]; exact g16 h), (fun h => by rw [eval_put_ne (by decide)]; exact g17 h), (fun _ => eval_put_same (by omega) _)⟩
    · cases ho
  · intro L a X hI hall
    subst hops
    obtain ⟨hF, S, g0, g1, g2, g3, g4, g5, g6, g7, g8, g9, g10, g11, g12, g13, g14, g15, g16, g17, g18⟩ := hI
    exact hQ a X hF.1 (g18 (hall 18 (by simp))) (S.p1 (hall 7 (by simp))) (S.r1 (hall 16 (by simp))) S.bel
theorem rd_ACut (X : World) (a : Act) (i j k d : Nat) (t : TypeId) (p : String) (f : Array Edge) {u v w : Value} (hu : a.eval (.tmp i) = u) (hv : a.eval (.tmp j) = v) (hw : a.eval (.tmp k) = w) :
    (execOp a.eval { dst := some d, op := .call { callee := .value (.func 29), args := #[.tmp i, .tmp j, .tmp k], argTypes := #[23, 3, 3] }, type := t, pos := p, after := f, guard := none }).run Try.prog X = .ok (.enter 29 #[u, v, w]) X := by
  subst hu hv hw
  simp only [execOp]
  go_simp
theorem rd_CCut (X : World) (a : Act) (i j k d : Nat) (t : TypeId) (p : String) (f : Array Edge) {u v w : Value} (hu : a.eval (.tmp i) = u) (hv : a.eval (.tmp j) = v) (hw : a.eval (.tmp k) = w) :
    (execOp a.eval { dst := some d, op := .call { callee := .value (.func 30), args := #[.tmp i, .tmp j, .tmp k], argTypes := #[25, 3, 3] }, type := t, pos := p, after := f, guard := none }).run Try.prog X = .ok (.enter 30 #[u, v, w]) X := by
  subst hu hv hw
  simp only [execOp]
  go_simp
def WregC (fi ai : Int) (_s : ByteArray) (b0 D R : Nat) (E : Int) (L : Nat → Bool) (a : Act) : Prop :=
  (L 0 = true → a.eval (.tmp 73) = (.pointer (some ⟨D, 0, none⟩))) ∧
  (L 1 = true → a.eval (.tmp 74) = .pointer (some ⟨b0, 1, none⟩)) ∧
  (L 2 = true → a.eval (.tmp 75) = .int .i64 fi) ∧
  (L 3 = true → a.eval (.tmp 76) = .pointer (some ⟨b0, 2, none⟩)) ∧
  (L 4 = true → a.eval (.tmp 77) = .int .i64 ai) ∧
  (L 5 = true → a.eval (.tmp 78) = .int .i64 E) ∧
  (L 6 = true → a.eval (.tmp 79) = .int .i64 E) ∧
  (L 7 = true → a.eval (.tmp 80) = (.pointer (some ⟨R, 0, none⟩))) ∧
  (L 8 = true → a.eval (.tmp 81) = .pointer (some ⟨b0, 1, none⟩)) ∧
  (L 9 = true → a.eval (.tmp 82) = .int .i64 fi) ∧
  (L 10 = true → a.eval (.tmp 83) = .pointer (some ⟨b0, 2, none⟩)) ∧
  (L 11 = true → a.eval (.tmp 84) = .int .i64 ai) ∧
  (L 12 = true → a.eval (.tmp 85) = .int .i64 E) ∧
  (L 13 = true → a.eval (.tmp 86) = .bool true) ∧
  (L 14 = true → a.eval (.tmp 6) = .bool true)
def IregC (fi ai : Int) (s : ByteArray) (b0 D R : Nat) (E : Int) (wc : World) (B : Nat) (ob : Obj) (Pp Pq Rp Rq : World → Prop) (a0 : Act) (L : Nat → Bool) (a : Act) (X : World) : Prop := Fr [73, 74, 75, 76, 77, 78, 79, 80, 81, 82, 83, 84, 85, 86, 6] a0 a ∧ TwoS wc B b0 ob 5 12 Pp Pq Rp Rq L X ∧ WregC fi ai s b0 D R E L a
set_option maxHeartbeats 4000000 in
theorem regC {Q : Exit → Act → World → Prop} {ops : Array Oper} {id : Nat} {a0 : Act} {wc : World} (fi ai ni : Int) (s t : ByteArray) (kv cv : Value) (k : Int) (b0 B D R : Nat) (E : Int) (Pp Pq Rp Rq : World → Prop)
    (hob : wc.heap[b0]? = some (.cells #[.int .i64 k, .int .i64 fi, .int .i64 ai, .int .i64 ni, .string s, .string t, kv, cv] 31 (0, 0))) (hB : B ≤ wc.heap.size) (hP : Pp wc.drew) (hR : Rp wc.drew)
    (hA : ∀ w, B ≤ w.heap.size → Pp w → Calls Try.prog 29 #[(.pointer (some ⟨D, 0, none⟩)), .int .i64 fi, .int .i64 ai] w fun e w' => e = .returned (.int .i64 E) ∧ Pq w' ∧ BelT tyP B w w') (hC : ∀ w, B ≤ w.heap.size → Rp w → Calls Try.prog 30 #[(.pointer (some ⟨R, 0, none⟩)), .int .i64 fi, .int .i64 ai] w fun e w' => e = .returned (.int .i64 E) ∧ Rq w' ∧ BelT tyR B w w')
    (hpA : ∀ w w', Pp w → BelT tyR B w w' → Pp w') (hqA : ∀ w w', Pq w → BelT tyR B w w' → Pq w') (hpC : ∀ w w', Rp w → BelT tyP B w w' → Rp w') (hqC : ∀ w w', Rq w → BelT tyP B w w' → Rq w')
    (hsz : 86 < a0.tmps.size) (e0 : a0.eval (.tmp 0) = (.pointer (some ⟨D, 0, none⟩))) (e1 : a0.eval (.tmp 1) = (.pointer (some ⟨R, 0, none⟩))) (e5 : a0.eval (.tmp 5) = (.pointer (some ⟨b0, 0, none⟩)))
    {t0 t1 t2 t3 t4 t5 t6 t7 t8 t9 t10 t11 t12 t13 t14 : TypeId} {p0 p1 p2 p3 p4 p5 p6 p7 p8 p9 p10 p11 p12 p13 p14 : String} {f0 f1 f2 f3 f4 f5 f6 f7 f8 f9 f10 f11 f12 f13 f14 : Array Edge}
    (hops : ops = #[⟨some 73, .move (.tmp 0), t0, p0, f0, none⟩, ⟨some 74, .fieldAddr 31 (.tmp 5) 1, t1, p1, f1, none⟩, ⟨some 75, .load 3 (.tmp 74), t2, p2, f2, none⟩, ⟨some 76, .fieldAddr 31 (.tmp 5) 2, t3, p3, f3, none⟩, ⟨some 77, .load 3 (.tmp 76), t4, p4, f4, none⟩, ⟨some 78, .call { callee := .value (.func 29), args := #[.tmp 73, .tmp 75, .tmp 77], argTypes := #[23, 3, 3] }, t5, p5, f5, none⟩, ⟨some 79, .call { callee := .value (.func 26), args := #[.tmp 78], argTypes := #[37] }, t6, p6, f6, none⟩, ⟨some 80, .move (.tmp 1), t7, p7, f7, none⟩, ⟨some 81, .fieldAddr 31 (.tmp 5) 1, t8, p8, f8, none⟩, ⟨some 82, .load 3 (.tmp 81), t9, p9, f9, none⟩, ⟨some 83, .fieldAddr 31 (.tmp 5) 2, t10, p10, f10, none⟩, ⟨some 84, .load 3 (.tmp 83), t11, p11, f11, none⟩, ⟨some 85, .call { callee := .value (.func 30), args := #[.tmp 80, .tmp 82, .tmp 84], argTypes := #[25, 3, 3] }, t12, p12, f12, none⟩, ⟨some 86, .binOp .eql 3 (.tmp 79) (.tmp 85) 3, t13, p13, f13, none⟩, ⟨some 6, .assign (.tmp 86), t14, p14, f14, none⟩])
    (hb : backB ops = true) (d2 : depB f2 [1] = true) (d4 : depB f4 [3] = true) (d5 : depB f5 [0, 2, 4] = true) (d6 : depB f6 [5] = true) (d9 : depB f9 [8] = true) (d11 : depB f11 [10] = true) (d12 : depB f12 [7, 9, 11] = true) (d13 : depB f13 [6, 12] = true) (d14 : depB f14 [13] = true) (hm : Try.prog.follows .mixedOrders = true)
    (hQ : ∀ (b : Act) X, b.defers = a0.defers → b.eval (.tmp 6) = .bool true → Pq X → Rq X → Below B wc X → Q .normal b X) :
    (Code.region id ops true).wp Try.prog Q a0 wc := by
  refine wp_region_inv hm (IregC fi ai s b0 D R E wc B (.cells #[.int .i64 k, .int .i64 fi, .int .i64 ai, .int .i64 ni, .string s, .string t, kv, cv] 31 (0, 0)) Pp Pq Rp Rq) (backB_spec hb) ?_ ?_ ?_
  · refine ⟨Fr.refl _ _, ⟨(Below.refl _ _).drew, hob, hB, fun _ => hP, fun h => absurd h (by decide), fun _ => hR, fun h => absurd h (by decide)⟩, ?_⟩
    refine ⟨?_, ?_, ?_, ?_, ?_, ?_, ?_, ?_, ?_, ?_, ?_, ?_, ?_, ?_, ?_⟩ <;> intro h <;> exact absurd h (by decide)
  · intro L a X hI q o ho hL hd
    obtain ⟨hF, S, g0, g1, g2, g3, g4, g5, g6, g7, g8, g9, g10, g11, g12, g13, g14⟩ := hI
    have hs : a.tmps.size = a0.tmps.size := hF.2.1
    have E0 : a.eval (.tmp 0) = (.pointer (some ⟨D, 0, none⟩)) := by rw [hF.eval (by decide), e0]
    have E1 : a.eval (.tmp 1) = (.pointer (some ⟨R, 0, none⟩)) := by rw [hF.eval (by decide), e1]
    have E5 : a.eval (.tmp 5) = (.pointer (some ⟨b0, 0, none⟩)) := by rw [hF.eval (by decide), e5]
    have hob' := S.ob
    subst hops
    obtain _ | _ | _ | _ | _ | _ | _ | _ | _ | _ | _ | _ | _ | _ | _ | q := q
    · cases ho
      refine wpOp_value rfl rfl (rd_mv X a 0 73 _ _ _ E0) ?_
      show IregC _ _ _ _ _ _ _ _ _ _ _ _ _ _ a0 (upd L 0) (a.put (some 73) _) _
      exact ⟨hF.put (by decide) _, S.other (by decide) (by decide), (fun _ => eval_put_same (by omega) _), (fun h => by rw [eval_put_ne (by decide)]; exact g1 h), (fun h => by rw [eval_put_ne (by decide)]; exact g2 h), (fun h => by rw [eval_put_ne (by decide)]; exact g3 h), (fun h => by rw [eval_put_ne (by decide)]; exact g4 h), (fun h => by rw [eval_put_ne (by decide)]; exact g5 h), (fun h => by rw [eval_put_ne (by decide)]; exact g6 h), (fun h => by rw [eval_put_ne (by decide)]; exact g7 h), (fun h => by rw [eval_put_ne (by decide)]; exact g8 h), (fun h => by rw [eval_put_ne (by decide)]; exact g9 h), (fun h => by rw [eval_put_ne (by decide)]; exact g10 h), (fun h => by rw [eval_put_ne (by decide)]; exact g11 h), (fun h => by rw [eval_put_ne (by decide)]; exact g12 h), (fun h => by rw [eval_put_ne (by decide)]; exact g13 h), (fun h => by rw [eval_put_ne (by decide)]; exact g14 h)⟩
    · cases ho
      refine wpOp_value rfl rfl (rd_fa X a b0 5 74 1 (by decide) _ _ _ E5) ?_
      show IregC _ _ _ _ _ _ _ _ _ _ _ _ _ _ a0 (upd L 1) (a.put (some 74) _) _
      exact ⟨hF.put (by decide) _, S.other (by decide) (by decide), (fun h => by rw [eval_put_ne (by decide)]; exact g0 h), (fun _ => eval_put_same (by omega) _), (fun h => by rw [eval_put_ne (by decide)]; exact g2 h), (fun h => by rw [eval_put_ne (by decide)]; exact g3 h), (fun h => by rw [eval_put_ne (by decide)]; exact g4 h), (fun h => by rw [eval_put_ne (by decide)]; exact g5 h), (fun h => by rw [eval_put_ne (by decide)]; exact g6 h), (fun h => by rw [eval_put_ne (by decide)]; exact g7 h), (fun h => by rw [eval_put_ne (by decide)]; exact g8 h), (fun h => by rw [eval_put_ne (by decide)]; exact g9 h), (fun h => by rw [eval_put_ne (by decide)]; exact g10 h), (fun h => by rw [eval_put_ne (by decide)]; exact g11 h), (fun h => by rw [eval_put_ne (by decide)]; exact g12 h), (fun h => by rw [eval_put_ne (by decide)]; exact g13 h), (fun h => by rw [eval_put_ne (by decide)]; exact g14 h)⟩
    · cases ho
      have hdj := depB_spec d2 hd
      have r1 := g1 (hdj 1 (by decide))
      refine wpOp_value rfl rfl (rd_ldI (v := .int .i64 fi) X a ⟨b0, 1, none⟩ 74 75 _ _ _ r1 (by simp [World.cell?, hob'])) ?_
      show IregC _ _ _ _ _ _ _ _ _ _ _ _ _ _ a0 (upd L 2) (a.put (some 75) _) _
      exact ⟨hF.put (by decide) _, S.other (by decide) (by decide), (fun h => by rw [eval_put_ne (by decide)]; exact g0 h), (fun h => by rw [eval_put_ne (by decide)]; exact g1 h), (fun _ => eval_put_same (by omega) _), (fun h => by rw [eval_put_ne (by decide)]; exact g3 h), (fun h => by rw [eval_put_ne (by decide)]; exact g4 h), (fun h => by rw [eval_put_ne (by decide)]; exact g5 h), (fun h => by rw [eval_put_ne (by decide)]; exact g6 h), (fun h => by rw [eval_put_ne (by decide)]; exact g7 h), (fun h => by rw [eval_put_ne (by decide)]; exact g8 h), (fun h => by rw [eval_put_ne (by decide)]; exact g9 h), (fun h => by rw [eval_put_ne (by decide)]; exact g10 h), (fun h => by rw [eval_put_ne (by decide)]; exact g11 h), (fun h => by rw [eval_put_ne (by decide)]; exact g12 h), (fun h => by rw [eval_put_ne (by decide)]; exact g13 h), (fun h => by rw [eval_put_ne (by decide)]; exact g14 h)⟩
    · cases ho
      refine wpOp_value rfl rfl (rd_fa X a b0 5 76 2 (by decide) _ _ _ E5) ?_
      show IregC _ _ _ _ _ _ _ _ _ _ _ _ _ _ a0 (upd L 3) (a.put (some 76) _) _
      exact ⟨hF.put (by decide) _, S.other (by decide) (by decide), (fun h => by rw [eval_put_ne (by decide)]; exact g0 h), (fun h => by rw [eval_put_ne (by decide)]; exact g1 h), (fun h => by rw [eval_put_ne (by decide)]; exact g2 h), (fun _ => eval_put_same (by omega) _), (fun h => by rw [eval_put_ne (by decide)]; exact g4 h), (fun h => by rw [eval_put_ne (by decide)]; exact g5 h), (fun h => by rw [eval_put_ne (by decide)]; exact g6 h), (fun h => by rw [eval_put_ne (by decide)]; exact g7 h), (fun h => by rw [eval_put_ne (by decide)]; exact g8 h), (fun h => by rw [eval_put_ne (by decide)]; exact g9 h), (fun h => by rw [eval_put_ne (by decide)]; exact g10 h), (fun h => by rw [eval_put_ne (by decide)]; exact g11 h), (fun h => by rw [eval_put_ne (by decide)]; exact g12 h), (fun h => by rw [eval_put_ne (by decide)]; exact g13 h), (fun h => by rw [eval_put_ne (by decide)]; exact g14 h)⟩
    · cases ho
      have hdj := depB_spec d4 hd
      have r3 := g3 (hdj 3 (by decide))
      refine wpOp_value rfl rfl (rd_ldI (v := .int .i64 ai) X a ⟨b0, 2, none⟩ 76 77 _ _ _ r3 (by simp [World.cell?, hob'])) ?_
      show IregC _ _ _ _ _ _ _ _ _ _ _ _ _ _ a0 (upd L 4) (a.put (some 77) _) _
      exact ⟨hF.put (by decide) _, S.other (by decide) (by decide), (fun h => by rw [eval_put_ne (by decide)]; exact g0 h), (fun h => by rw [eval_put_ne (by decide)]; exact g1 h), (fun h => by rw [eval_put_ne (by decide)]; exact g2 h), (fun h => by rw [eval_put_ne (by decide)]; exact g3 h), (fun _ => eval_put_same (by omega) _), (fun h => by rw [eval_put_ne (by decide)]; exact g5 h), (fun h => by rw [eval_put_ne (by decide)]; exact g6 h), (fun h => by rw [eval_put_ne (by decide)]; exact g7 h), (fun h => by rw [eval_put_ne (by decide)]; exact g8 h), (fun h => by rw [eval_put_ne (by decide)]; exact g9 h), (fun h => by rw [eval_put_ne (by decide)]; exact g10 h), (fun h => by rw [eval_put_ne (by decide)]; exact g11 h), (fun h => by rw [eval_put_ne (by decide)]; exact g12 h), (fun h => by rw [eval_put_ne (by decide)]; exact g13 h), (fun h => by rw [eval_put_ne (by decide)]; exact g14 h)⟩
    · cases ho
      have hdj := depB_spec d5 hd
      have r0 := g0 (hdj 0 (by decide))
      have r2 := g2 (hdj 2 (by decide))
      have r4 := g4 (hdj 4 (by decide))
      refine wpOp_call (R := fun u X' => u = .int .i64 E ∧ Pq X' ∧ BelT tyP B X X') rfl rfl (rd_ACut X a 73 75 77 78 _ _ _ r0 r2 r4) ((hA X S.low (S.p0 hL)).mono fun e X' h => ⟨_, h.1, rfl, h.2⟩) ?_
      rintro u X' ⟨rfl, hq', hb'⟩
      show IregC _ _ _ _ _ _ _ _ _ _ _ _ _ _ a0 (upd L 5) (a.put (some 78) _) _
      exact ⟨hF.put (by decide) _, S.callA (by decide) hq' hb' (far_blk (by decide) S.ob) hpC hqC, (fun h => by rw [eval_put_ne (by decide)]; exact g0 h), (fun h => by rw [eval_put_ne (by decide)]; exact g1 h), (fun h => by rw [eval_put_ne (by decide)]; exact g2 h), (fun h => by rw [eval_put_ne (by decide)]; exact g3 h), (fun h => by rw [eval_put_ne (by decide)]; exact g4 h), (fun _ => eval_put_same (by omega) _), (fun h => by rw [eval_put_ne (by decide)]; exact g6 h), (fun h => by rw [eval_put_ne (by decide)]; exact g7 h), (fun h => by rw [eval_put_ne (by decide)]; exact g8 h), (fun h => by rw [eval_put_ne (by decide)]; exact g9 h), (fun h => by rw [eval_put_ne (by decide)]; exact g10 h), (fun h => by rw [eval_put_ne (by decide)]; exact g11 h), (fun h => by rw [eval_put_ne (by decide)]; exact g12 h), (fun h => by rw [eval_put_ne (by decide)]; exact g13 h), (fun h => by rw [eval_put_ne (by decide)]; exact g14 h)⟩
    · cases ho
      have hdj := depB_spec d6 hd
      have r5 := g5 (hdj 5 (by decide))
      refine wpOp_call (R := fun u X' => u = .int .i64 E ∧ X' = X) rfl rfl (rd_num X a 78 79 _ _ _ r5) ((dnum E X).mono fun e X' h => ⟨_, h.1, rfl, h.2⟩) ?_
      rintro u X' ⟨rfl, rfl⟩
      show IregC _ _ _ _ _ _ _ _ _ _ _ _ _ _ a0 (upd L 6) (a.put (some 79) _) _
      exact ⟨hF.put (by decide) _, S.other (by decide) (by decide), (fun h => by rw [eval_put_ne (by decide)]; exact g0 h), (fun h => by rw [eval_put_ne (by decide)]; exact g1 h), (fun h => by rw [eval_put_ne (by decide)]; exact g2 h), (fun h => by rw [eval_put_ne (by decide)]; exact g3 h), (fun h => by rw [eval_put_ne (by decide)]; exact g4 h), (fun h => by rw [eval_put_ne (by decide)]; exact g5 h), (fun _ => eval_put_same (by omega) _), (fun h => by rw [eval_put_ne (by decide)]; exact g7 h), (fun h => by rw [eval_put_ne (by decide)]; exact g8 h), (fun h => by rw [eval_put_ne (by decide)]; exact g9 h), (fun h => by rw [eval_put_ne (by decide)]; exact g10 h), (fun h => by rw [eval_put_ne (by decide)]; exact g11 h), (fun h => by rw [eval_put_ne (by decide)]; exact g12 h), (fun h => by rw [eval_put_ne (by decide)]; exact g13 h), (fun h => by rw [eval_put_ne (by decide)]; exact g14 h)⟩
    · cases ho
      refine wpOp_value rfl rfl (rd_mv X a 1 80 _ _ _ E1) ?_
      show IregC _ _ _ _ _ _ _ _ _ _ _ _ _ _ a0 (upd L 7) (a.put (some 80) _) _
      exact ⟨hF.put (by decide) _, S.other (by decide) (by decide), (fun h => by rw [eval_put_ne (by decide)]; exact g0 h), (fun h => by rw [eval_put_ne (by decide)]; exact g1 h), (fun h => by rw [eval_put_ne (by decide)]; exact g2 h), (fun h => by rw [eval_put_ne (by decide)]; exact g3 h), (fun h => by rw [eval_put_ne (by decide)]; exact g4 h), (fun h => by rw [eval_put_ne (by decide)]; exact g5 h), (fun h => by rw [eval_put_ne (by decide)]; exact g6 h), (fun _ => eval_put_same (by omega) _), (fun h => by rw [eval_put_ne (by decide)]; exact g8 h), (fun h => by rw [eval_put_ne (by decide)]; exact g9 h), (fun h => by rw [eval_put_ne (by decide)]; exact g10 h), (fun h => by rw [eval_put_ne (by decide)]; exact g11 h), (fun h => by rw [eval_put_ne (by decide)]; exact g12 h), (fun h => by rw [eval_put_ne (by decide)]; exact g13 h), (fun h => by rw [eval_put_ne (by decide)]; exact g14 h)⟩
    · cases ho
      refine wpOp_value rfl rfl (rd_fa X a b0 5 81 1 (by decide) _ _ _ E5) ?_
      show IregC _ _ _ _ _ _ _ _ _ _ _ _ _ _ a0 (upd L 8) (a.put (some 81) _) _
      exact ⟨hF.put (by decide) _, S.other (by decide) (by decide), (fun h => by rw [eval_put_ne (by decide)]; exact g0 h), (fun h => by rw [eval_put_ne (by decide)]; exact g1 h), (fun h => by rw [eval_put_ne (by decide)]; exact g2 h), (fun h => by rw [eval_put_ne (by decide)]; exact g3 h), (fun h => by rw [eval_put_ne (by decide)]; exact g4 h), (fun h => by rw [eval_put_ne (by decide)]; exact g5 h), (fun h => by rw [eval_put_ne (by decide)]; exact g6 h), (fun h => by rw [eval_put_ne (by decide)]; exact g7 h), (fun _ => eval_put_same (by omega) _), (fun h => by rw [eval_put_ne (by decide)]; exact g9 h), (fun h => by rw [eval_put_ne (by decide)]; exact g10 h), (fun h => by rw [eval_put_ne (by decide)]; exact g11 h), (fun h => by rw [eval_put_ne (by decide)]; exact g12 h), (fun h => by rw [eval_put_ne (by decide)]; exact g13 h), (fun h => by rw [eval_put_ne (by decide)]; exact g14 h)⟩
    · cases ho
      have hdj := depB_spec d9 hd
      have r8 := g8 (hdj 8 (by decide))
      refine wpOp_value rfl rfl (rd_ldI (v := .int .i64 fi) X a ⟨b0, 1, none⟩ 81 82 _ _ _ r8 (by simp [World.cell?, hob'])) ?_
      show IregC _ _ _ _ _ _ _ _ _ _ _ _ _ _ a0 (upd L 9) (a.put (some 82) _) _
      exact ⟨hF.put (by decide) _, S.other (by decide) (by decide), (fun h => by rw [eval_put_ne (by decide)]; exact g0 h), (fun h => by rw [eval_put_ne (by decide)]; exact g1 h), (fun h => by rw [eval_put_ne (by decide)]; exact g2 h), (fun h => by rw [eval_put_ne (by decide)]; exact g3 h), (fun h => by rw [eval_put_ne (by decide)]; exact g4 h), (fun h => by rw [eval_put_ne (by decide)]; exact g5 h), (fun h => by rw [eval_put_ne (by decide)]; exact g6 h), (fun h => by rw [eval_put_ne (by decide)]; exact g7 h), (fun h => by rw [eval_put_ne (by decide)]; exact g8 h), (fun _ => eval_put_same (by omega) _), (fun h => by rw [eval_put_ne (by decide)]; exact g10 h), (fun h => by rw [eval_put_ne (by decide)]; exact g11 h), (fun h => by rw [eval_put_ne (by decide)]; exact g12 h), (fun h => by rw [eval_put_ne (by decide)]; exact g13 h), (fun h => by rw [eval_put_ne (by decide)]; exact g14 h)⟩
    · cases ho
      refine wpOp_value rfl rfl (rd_fa X a b0 5 83 2 (by decide) _ _ _ E5) ?_
      show IregC _ _ _ _ _ _ _ _ _ _ _ _ _ _ a0 (upd L 10) (a.put (some 83) _) _
      exact ⟨hF.put (by decide) _, S.other (by decide) (by decide), (fun h => by rw [eval_put_ne (by decide)]; exact g0 h), (fun h => by rw [eval_put_ne (by decide)]; exact g1 h), (fun h => by rw [eval_put_ne (by decide)]; exact g2 h), (fun h => by rw [eval_put_ne (by decide)]; exact g3 h), (fun h => by rw [eval_put_ne (by decide)]; exact g4 h), (fun h => by rw [eval_put_ne (by decide)]; exact g5 h), (fun h => by rw [eval_put_ne (by decide)]; exact g6 h), (fun h => by rw [eval_put_ne (by decide)]; exact g7 h), (fun h => by rw [eval_put_ne (by decide)]; exact g8 h), (fun h => by rw [eval_put_ne (by decide)]; exact g9 h), (fun _ => eval_put_same (by omega) _), (fun h => by rw [eval_put_ne (by decide)]; exact g11 h), (fun h => by rw [eval_put_ne (by decide)]; exact g12 h), (fun h => by rw [eval_put_ne (by decide)]; exact g13 h), (fun h => by rw [eval_put_ne (by decide)]; exact g14 h)⟩
    · cases ho
      have hdj := depB_spec d11 hd
      have r10 := g10 (hdj 10 (by decide))
      refine wpOp_value rfl rfl (rd_ldI (v := .int .i64 ai) X a ⟨b0, 2, none⟩ 83 84 _ _ _ r10 (by simp [World.cell?, hob'])) ?_
      show IregC _ _ _ _ _ _ _ _ _ _ _ _ _ _ a0 (upd L 11) (a.put (some 84) _) _
      exact ⟨hF.put (by decide) _, S.other (by decide) (by decide), (fun h => by rw [eval_put_ne (by decide)]; exact g0 h), (fun h => by rw [eval_put_ne (by decide)]; exact g1 h), (fun h => by rw [eval_put_ne (by decide)]; exact g2 h), (fun h => by rw [eval_put_ne (by decide)]; exact g3 h), (fun h => by rw [eval_put_ne (by decide)]; exact g4 h), (fun h => by rw [eval_put_ne (by decide)]; exact g5 h), (fun h => by rw [eval_put_ne (by decide)]; exact g6 h), (fun h => by rw [eval_put_ne (by decide)]; exact g7 h), (fun h => by rw [eval_put_ne (by decide)]; exact g8 h), (fun h => by rw [eval_put_ne (by decide)]; exact g9 h), (fun h => by rw [eval_put_ne (by decide)]; exact g10 h), (fun _ => eval_put_same (by omega) _), (fun h => by rw [eval_put_ne (by decide)]; exact g12 h), (fun h => by rw [eval_put_ne (by decide)]; exact g13 h), (fun h => by rw [eval_put_ne (by decide)]; exact g14 h)⟩
    · cases ho
      have hdj := depB_spec d12 hd
      have r7 := g7 (hdj 7 (by decide))
      have r9 := g9 (hdj 9 (by decide))
      have r11 := g11 (hdj 11 (by decide))
      refine wpOp_call (R := fun u X' => u = .int .i64 E ∧ Rq X' ∧ BelT tyR B X X') rfl rfl (rd_CCut X a 80 82 84 85 _ _ _ r7 r9 r11) ((hC X S.low (S.r0 hL)).mono fun e X' h => ⟨_, h.1, rfl, h.2⟩) ?_
      rintro u X' ⟨rfl, hq', hb'⟩
      show IregC _ _ _ _ _ _ _ _ _ _ _ _ _ _ a0 (upd L 12) (a.put (some 85) _) _
      exact ⟨hF.put (by decide) _, S.callC (by decide) hq' hb' (far_blk (by decide) S.ob) hpA hqA, (fun h => by rw [eval_put_ne (by decide)]; exact g0 h), (fun h => by rw [eval_put_ne (by decide)]; exact g1 h), (fun h => by rw [eval_put_ne (by decide)]; exact g2 h), (fun h => by rw [eval_put_ne (by decide)]; exact g3 h), (fun h => by rw [eval_put_ne (by decide)]; exact g4 h), (fun h => by rw [eval_put_ne (by decide)]; exact g5 h), (fun h => by rw [eval_put_ne (by decide)]; exact g6 h), (fun h => by rw [eval_put_ne (by decide)]; exact g7 h), (fun h => by rw [eval_put_ne (by decide)]; exact g8 h), (fun h => by rw [eval_put_ne (by decide)]; exact g9 h), (fun h => by rw [eval_put_ne (by decide)]; exact g10 h), (fun h => by rw [eval_put_ne (by decide)]; exact g11 h), (fun _ => eval_put_same (by omega) _), (fun h => by rw [eval_put_ne (by decide)]; exact g13 h), (fun h => by rw [eval_put_ne (by decide)]; exact g14 h)⟩
    · cases ho
      have hdj := depB_spec d13 hd
      have r6 := g6 (hdj 6 (by decide))
      have r12 := g12 (hdj 12 (by decide))
      refine wpOp_value rfl rfl (rd_eq X a 79 85 86 E _ _ _ r6 r12) ?_
      show IregC _ _ _ _ _ _ _ _ _ _ _ _ _ _ a0 (upd L 13) (a.put (some 86) _) _
      exact ⟨hF.put (by decide) _, S.other (by decide) (by decide), (fun h => by rw [eval_put_ne (by decide)]; exact g0 h), (fun h => by rw [eval_put_ne (by decide)]; exact g1 h), (fun h => by rw [eval_put_ne (by decide)]; exact g2 h), (fun h => by rw [eval_put_ne (by decide)]; exact g3 h), (fun h => by rw [eval_put_ne (by decide)]; exact g4 h), (fun h => by rw [eval_put_ne (by decide)]; exact g5 h), (fun h => by rw [eval_put_ne (by decide)]; exact g6 h), (fun h => by rw [eval_put_ne (by decide)]; exact g7 h), (fun h => by rw [eval_put_ne (by decide)]; exact g8 h), (fun h => by rw [eval_put_ne (by decide)]; exact g9 h), (fun h => by rw [eval_put_ne (by decide)]; exact g10 h), (fun h => by rw [eval_put_ne (by decide)]; exact g11 h), (fun h => by rw [eval_put_ne (by decide)]; exact g12 h), (fun _ => eval_put_same (by omega) _), (fun h => by rw [eval_put_ne (by decide)]; exact g14 h)⟩
    · cases ho
      have hdj := depB_spec d14 hd
      have r13 := g13 (hdj 13 (by decide))
      refine wpOp_value rfl rfl (rd_as X a 86 6 _ _ _ r13) ?_
      show IregC _ _ _ _ _ _ _ _ _ _ _ _ _ _ a0 (upd L 14) (a.put (some 6) _) _
      exact ⟨hF.put (by decide) _, S.other (by decide) (by decide), (fun h => by rw [eval_put_ne (by decide)]; exact g0 h), (fun h => by rw [eval_put_ne (by decide)]; exact g1 h), (fun h => by rw [eval_put_ne (by decide)]; exact g2 h), (fun h => by rw [eval_put_ne (by decide)]; exact g3 h), (fun h => by rw [eval_put_ne (by decide)]; exact g4 h), (fun h => by rw [eval_put_ne (by decide)]; exact g5 h), (fun h => by rw [eval_put_ne (by decide)]; exact g6 h), (fun h => by rw [eval_put_ne (by decide)]; exact g7 h), (fun h => by rw [eval_put_ne (by decide)]; exact g8 h), (fun h => by rw [eval_put_ne (by decide)]; exact g9 h), (fun h => by rw [eval_put_ne (by decide)]; exact g10 h), (fun h => by rw [eval_put_ne (by decide)]; exact g11 h), (fun h => by rw [eval_put_ne (by decide)]; exact g12 h), (fun h => by rw [eval_put_ne (by decide)]; exact g13 h), (fun _ => eval_put_same (by omega) _)⟩
    · cases ho
  · intro L a X hI hall
    subst hops
    obtain ⟨hF, S, g0, g1, g2, g3, g4, g5, g6, g7, g8, g9, g10, g11, g12, g13, g14⟩ := hI
    exact hQ a X hF.1 (g14 (hall 14 (by simp))) (S.p1 (hall 5 (by simp))) (S.r1 (hall 12 (by simp))) S.bel
theorem rd_ASync (X : World) (a : Act) (i j d : Nat) (t : TypeId) (p : String) (f : Array Edge) {u v : Value} (hu : a.eval (.tmp i) = u) (hv : a.eval (.tmp j) = v) :
    (execOp a.eval { dst := some d, op := .call { callee := .value (.func 33), args := #[.tmp i, .tmp j], argTypes := #[23, 3] }, type := t, pos := p, after := f, guard := none }).run Try.prog X = .ok (.enter 33 #[u, v]) X := by
  subst hu hv
  simp only [execOp]
  go_simp
theorem rd_CSync (X : World) (a : Act) (i j d : Nat) (t : TypeId) (p : String) (f : Array Edge) {u v : Value} (hu : a.eval (.tmp i) = u) (hv : a.eval (.tmp j) = v) :
    (execOp a.eval { dst := some d, op := .call { callee := .value (.func 34), args := #[.tmp i, .tmp j], argTypes := #[25, 3] }, type := t, pos := p, after := f, guard := none }).run Try.prog X = .ok (.enter 34 #[u, v]) X := by
  subst hu hv
  simp only [execOp]
  go_simp
def WregS (fi _ai : Int) (_s : ByteArray) (b0 D R : Nat) (E : Int) (L : Nat → Bool) (a : Act) : Prop :=
  (L 0 = true → a.eval (.tmp 114) = (.pointer (some ⟨D, 0, none⟩))) ∧
  (L 1 = true → a.eval (.tmp 115) = .pointer (some ⟨b0, 1, none⟩)) ∧
  (L 2 = true → a.eval (.tmp 116) = .int .i64 fi) ∧
  (L 3 = true → a.eval (.tmp 117) = .int .i64 E) ∧
  (L 4 = true → a.eval (.tmp 118) = .int .i64 E) ∧
  (L 5 = true → a.eval (.tmp 119) = (.pointer (some ⟨R, 0, none⟩))) ∧
  (L 6 = true → a.eval (.tmp 120) = .pointer (some ⟨b0, 1, none⟩)) ∧
  (L 7 = true → a.eval (.tmp 121) = .int .i64 fi) ∧
  (L 8 = true → a.eval (.tmp 122) = .int .i64 E) ∧
  (L 9 = true → a.eval (.tmp 123) = .bool true) ∧
  (L 10 = true → a.eval (.tmp 6) = .bool true)
def IregS (fi ai : Int) (s : ByteArray) (b0 D R : Nat) (E : Int) (wc : World) (B : Nat) (ob : Obj) (Pp Pq Rp Rq : World → Prop) (a0 : Act) (L : Nat → Bool) (a : Act) (X : World) : Prop := Fr [114, 115, 116, 117, 118, 119, 120, 121, 122, 123, 6] a0 a ∧ TwoS wc B b0 ob 3 8 Pp Pq Rp Rq L X ∧ WregS fi ai s b0 D R E L a
set_option maxHeartbeats 4000000 in
theorem regS {Q : Exit → Act → World → Prop} {ops : Array Oper} {id : Nat} {a0 : Act} {wc : World} (fi ai ni : Int) (s t : ByteArray) (kv cv : Value) (k : Int) (b0 B D R : Nat) (E : Int) (Pp Pq Rp Rq : World → Prop)
    (hob : wc.heap[b0]? = some (.cells #[.int .i64 k, .int .i64 fi, .int .i64 ai, .int .i64 ni, .string s, .string t, kv, cv] 31 (0, 0))) (hB : B ≤ wc.heap.size) (hP : Pp wc.drew) (hR : Rp wc.drew)
    (hA : ∀ w, B ≤ w.heap.size → Pp w → Calls Try.prog 33 #[(.pointer (some ⟨D, 0, none⟩)), .int .i64 fi] w fun e w' => e = .returned (.int .i64 E) ∧ Pq w' ∧ BelT tyP B w w') (hC : ∀ w, B ≤ w.heap.size → Rp w → Calls Try.prog 34 #[(.pointer (some ⟨R, 0, none⟩)), .int .i64 fi] w fun e w' => e = .returned (.int .i64 E) ∧ Rq w' ∧ BelT tyR B w w')
    (hpA : ∀ w w', Pp w → BelT tyR B w w' → Pp w') (hqA : ∀ w w', Pq w → BelT tyR B w w' → Pq w') (hpC : ∀ w w', Rp w → BelT tyP B w w' → Rp w') (hqC : ∀ w w', Rq w → BelT tyP B w w' → Rq w')
    (hsz : 123 < a0.tmps.size) (e0 : a0.eval (.tmp 0) = (.pointer (some ⟨D, 0, none⟩))) (e1 : a0.eval (.tmp 1) = (.pointer (some ⟨R, 0, none⟩))) (e5 : a0.eval (.tmp 5) = (.pointer (some ⟨b0, 0, none⟩)))
    {t0 t1 t2 t3 t4 t5 t6 t7 t8 t9 t10 : TypeId} {p0 p1 p2 p3 p4 p5 p6 p7 p8 p9 p10 : String} {f0 f1 f2 f3 f4 f5 f6 f7 f8 f9 f10 : Array Edge}
    (hops : ops = #[⟨some 114, .move (.tmp 0), t0, p0, f0, none⟩, ⟨some 115, .fieldAddr 31 (.tmp 5) 1, t1, p1, f1, none⟩, ⟨some 116, .load 3 (.tmp 115), t2, p2, f2, none⟩, ⟨some 117, .call { callee := .value (.func 33), args := #[.tmp 114, .tmp 116], argTypes := #[23, 3] }, t3, p3, f3, none⟩, ⟨some 118, .call { callee := .value (.func 26), args := #[.tmp 117], argTypes := #[37] }, t4, p4, f4, none⟩, ⟨some 119, .move (.tmp 1), t5, p5, f5, none⟩, ⟨some 120, .fieldAddr 31 (.tmp 5) 1, t6, p6, f6, none⟩, ⟨some 121, .load 3 (.tmp 120), t7, p7, f7, none⟩, ⟨some 122, .call { callee := .value (.func 34), args := #[.tmp 119, .tmp 121], argTypes := #[25, 3] }, t8, p8, f8, none⟩, ⟨some 123, .binOp .eql 3 (.tmp 118) (.tmp 122) 3, t9, p9, f9, none⟩, ⟨some 6, .assign (.tmp 123), t10, p10, f10, none⟩])
    (hb : backB ops = true) (d2 : depB f2 [1] = true) (d3 : depB f3 [0, 2] = true) (d4 : depB f4 [3] = true) (d7 : depB f7 [6] = true) (d8 : depB f8 [5, 7] = true) (d9 : depB f9 [4, 8] = true) (d10 : depB f10 [9] = true) (hm : Try.prog.follows .mixedOrders = true)
    (hQ : ∀ (b : Act) X, b.defers = a0.defers → b.eval (.tmp 6) = .bool true → Pq X → Rq X → Below B wc X → Q .normal b X) :
    (Code.region id ops true).wp Try.prog Q a0 wc := by
  refine wp_region_inv hm (IregS fi ai s b0 D R E wc B (.cells #[.int .i64 k, .int .i64 fi, .int .i64 ai, .int .i64 ni, .string s, .string t, kv, cv] 31 (0, 0)) Pp Pq Rp Rq) (backB_spec hb) ?_ ?_ ?_
  · refine ⟨Fr.refl _ _, ⟨(Below.refl _ _).drew, hob, hB, fun _ => hP, fun h => absurd h (by decide), fun _ => hR, fun h => absurd h (by decide)⟩, ?_⟩
    refine ⟨?_, ?_, ?_, ?_, ?_, ?_, ?_, ?_, ?_, ?_, ?_⟩ <;> intro h <;> exact absurd h (by decide)
  · intro L a X hI q o ho hL hd
    obtain ⟨hF, S, g0, g1, g2, g3, g4, g5, g6, g7, g8, g9, g10⟩ := hI
    have hs : a.tmps.size = a0.tmps.size := hF.2.1
    have E0 : a.eval (.tmp 0) = (.pointer (some ⟨D, 0, none⟩)) := by rw [hF.eval (by decide), e0]
    have E1 : a.eval (.tmp 1) = (.pointer (some ⟨R, 0, none⟩)) := by rw [hF.eval (by decide), e1]
    have E5 : a.eval (.tmp 5) = (.pointer (some ⟨b0, 0, none⟩)) := by rw [hF.eval (by decide), e5]
    have hob' := S.ob
    subst hops
    obtain _ | _ | _ | _ | _ | _ | _ | _ | _ | _ | _ | q := q
    · cases ho
      refine wpOp_value rfl rfl (rd_mv X a 0 114 _ _ _ E0) ?_
      show IregS _ _ _ _ _ _ _ _ _ _ _ _ _ _ a0 (upd L 0) (a.put (some 114) _) _
      exact ⟨hF.put (by decide) _, S.other (by decide) (by decide), (fun _ => eval_put_same (by omega) _), (fun h => by rw [eval_put_ne (by decide)]; exact g1 h), (fun h => by rw [eval_put_ne (by decide)]; exact g2 h), (fun h => by rw [eval_put_ne (by decide)]; exact g3 h), (fun h => by rw [eval_put_ne (by decide)]; exact g4 h), (fun h => by rw [eval_put_ne (by decide)]; exact g5 h), (fun h => by rw [eval_put_ne (by decide)]; exact g6 h), (fun h => by rw [eval_put_ne (by decide)]; exact g7 h), (fun h => by rw [eval_put_ne (by decide)]; exact g8 h), (fun h => by rw [eval_put_ne (by decide)]; exact g9 h), (fun h => by rw [eval_put_ne (by decide)]; exact g10 h)⟩
    · cases ho
      refine wpOp_value rfl rfl (rd_fa X a b0 5 115 1 (by decide) _ _ _ E5) ?_
      show IregS _ _ _ _ _ _ _ _ _ _ _ _ _ _ a0 (upd L 1) (a.put (some 115) _) _
      exact ⟨hF.put (by decide) _, S.other (by decide) (by decide), (fun h => by rw [eval_put_ne (by decide)]; exact g0 h), (fun _ => eval_put_same (by omega) _), (fun h => by rw [eval_put_ne (by decide)]; exact g2 h), (fun h => by rw [eval_put_ne (by decide)]; exact g3 h), (fun h => by rw [eval_put_ne (by decide)]; exact g4 h), (fun h => by rw [eval_put_ne (by decide)]; exact g5 h), (fun h => by rw [eval_put_ne (by decide)]; exact g6 h), (fun h => by rw [eval_put_ne (by decide)]; exact g7 h), (fun h => by rw [eval_put_ne (by decide)]; exact g8 h), (fun h => by rw [eval_put_ne (by decide)]; exact g9 h), (fun h => by rw [eval_put_ne (by decide)]; exact g10 h)⟩
    · cases ho
      have hdj := depB_spec d2 hd
      have r1 := g1 (hdj 1 (by decide))
      refine wpOp_value rfl rfl (rd_ldI (v := .int .i64 fi) X a ⟨b0, 1, none⟩ 115 116 _ _ _ r1 (by simp [World.cell?, hob'])) ?_
      show IregS _ _ _ _ _ _ _ _ _ _ _ _ _ _ a0 (upd L 2) (a.put (some 116) _) _
      exact ⟨hF.put (by decide) _, S.other (by decide) (by decide), (fun h => by rw [eval_put_ne (by decide)]; exact g0 h), (fun h => by rw [eval_put_ne (by decide)]; exact g1 h), (fun _ => eval_put_same (by omega) _), (fun h => by rw [eval_put_ne (by decide)]; exact g3 h), (fun h => by rw [eval_put_ne (by decide)]; exact g4 h), (fun h => by rw [eval_put_ne (by decide)]; exact g5 h), (fun h => by rw [eval_put_ne (by decide)]; exact g6 h), (fun h => by rw [eval_put_ne (by decide)]; exact g7 h), (fun h => by rw [eval_put_ne (by decide)]; exact g8 h), (fun h => by rw [eval_put_ne (by decide)]; exact g9 h), (fun h => by rw [eval_put_ne (by decide)]; exact g10 h)⟩
    · cases ho
      have hdj := depB_spec d3 hd
      have r0 := g0 (hdj 0 (by decide))
      have r2 := g2 (hdj 2 (by decide))
      refine wpOp_call (R := fun u X' => u = .int .i64 E ∧ Pq X' ∧ BelT tyP B X X') rfl rfl (rd_ASync X a 114 116 117 _ _ _ r0 r2) ((hA X S.low (S.p0 hL)).mono fun e X' h => ⟨_, h.1, rfl, h.2⟩) ?_
      rintro u X' ⟨rfl, hq', hb'⟩
      show IregS _ _ _ _ _ _ _ _ _ _ _ _ _ _ a0 (upd L 3) (a.put (some 117) _) _
      exact ⟨hF.put (by decide) _, S.callA (by decide) hq' hb' (far_blk (by decide) S.ob) hpC hqC, (fun h => by rw [eval_put_ne (by decide)]; exact g0 h), (fun h => by rw [eval_put_ne (by decide)]; exact g1 h), (fun h => by rw [eval_put_ne (by decide)]; exact g2 h), (fun _ => eval_put_same (by omega) _), (fun h => by rw [eval_put_ne (by decide)]; exact g4 h), (fun h => by rw [eval_put_ne (by decide)]; exact g5 h), (fun h => by rw [eval_put_ne (by decide)]; exact g6 h), (fun h => by rw [eval_put_ne (by decide)]; exact g7 h), (fun h => by rw [eval_put_ne (by decide)]; exact g8 h), (fun h => by rw [eval_put_ne (by decide)]; exact g9 h), (fun h => by rw [eval_put_ne (by decide)]; exact g10 h)⟩
    · cases ho
      have hdj := depB_spec d4 hd
      have r3 := g3 (hdj 3 (by decide))
      refine wpOp_call (R := fun u X' => u = .int .i64 E ∧ X' = X) rfl rfl (rd_num X a 117 118 _ _ _ r3) ((dnum E X).mono fun e X' h => ⟨_, h.1, rfl, h.2⟩) ?_
      rintro u X' ⟨rfl, rfl⟩
      show IregS _ _ _ _ _ _ _ _ _ _ _ _ _ _ a0 (upd L 4) (a.put (some 118) _) _
      exact ⟨hF.put (by decide) _, S.other (by decide) (by decide), (fun h => by rw [eval_put_ne (by decide)]; exact g0 h), (fun h => by rw [eval_put_ne (by decide)]; exact g1 h), (fun h => by rw [eval_put_ne (by decide)]; exact g2 h), (fun h => by rw [eval_put_ne (by decide)]; exact g3 h), (fun _ => eval_put_same (by omega) _), (fun h => by rw [eval_put_ne (by decide)]; exact g5 h), (fun h => by rw [eval_put_ne (by decide)]; exact g6 h), (fun h => by rw [eval_put_ne (by decide)]; exact g7 h), (fun h => by rw [eval_put_ne (by decide)]; exact g8 h), (fun h => by rw [eval_put_ne (by decide)]; exact g9 h), (fun h => by rw [eval_put_ne (by decide)]; exact g10 h)⟩
    · cases ho
      refine wpOp_value rfl rfl (rd_mv X a 1 119 _ _ _ E1) ?_
      show IregS _ _ _ _ _ _ _ _ _ _ _ _ _ _ a0 (upd L 5) (a.put (some 119) _) _
      exact ⟨hF.put (by decide) _, S.other (by decide) (by decide), (fun h => by rw [eval_put_ne (by decide)]; exact g0 h), (fun h => by rw [eval_put_ne (by decide)]; exact g1 h), (fun h => by rw [eval_put_ne (by decide)]; exact g2 h), (fun h => by rw [eval_put_ne (by decide)]; exact g3 h), (fun h => by rw [eval_put_ne (by decide)]; exact g4 h), (fun _ => eval_put_same (by omega) _), (fun h => by rw [eval_put_ne (by decide)]; exact g6 h), (fun h => by rw [eval_put_ne (by decide)]; exact g7 h), (fun h => by rw [eval_put_ne (by decide)]; exact g8 h), (fun h => by rw [eval_put_ne (by decide)]; exact g9 h), (fun h => by rw [eval_put_ne (by decide)]; exact g10 h)⟩
    · cases ho
      refine wpOp_value rfl rfl (rd_fa X a b0 5 120 1 (by decide) _ _ _ E5) ?_
      show IregS _ _ _ _ _ _ _ _ _ _ _ _ _ _ a0 (upd L 6) (a.put (some 120) _) _
      exact ⟨hF.put (by decide) _, S.other (by decide) (by decide), (fun h => by rw [eval_put_ne (by decide)]; exact g0 h), (fun h => by rw [eval_put_ne (by decide)]; exact g1 h), (fun h => by rw [eval_put_ne (by decide)]; exact g2 h), (fun h => by rw [eval_put_ne (by decide)]; exact g3 h), (fun h => by rw [eval_put_ne (by decide)]; exact g4 h), (fun h => by rw [eval_put_ne (by decide)]; exact g5 h), (fun _ => eval_put_same (by omega) _), (fun h => by rw [eval_put_ne (by decide)]; exact g7 h), (fun h => by rw [eval_put_ne (by decide)]; exact g8 h), (fun h => by rw [eval_put_ne (by decide)]; exact g9 h), (fun h => by rw [eval_put_ne (by decide)]; exact g10 h)⟩
    · cases ho
      have hdj := depB_spec d7 hd
      have r6 := g6 (hdj 6 (by decide))
      refine wpOp_value rfl rfl (rd_ldI (v := .int .i64 fi) X a ⟨b0, 1, none⟩ 120 121 _ _ _ r6 (by simp [World.cell?, hob'])) ?_
      show IregS _ _ _ _ _ _ _ _ _ _ _ _ _ _ a0 (upd L 7) (a.put (some 121) _) _
      exact ⟨hF.put (by decide) _, S.other (by decide) (by decide), (fun h => by rw [eval_put_ne (by decide)]; exact g0 h), (fun h => by rw [eval_put_ne (by decide)]; exact g1 h), (fun h => by rw [eval_put_ne (by decide)]; exact g2 h), (fun h => by rw [eval_put_ne (by decide)]; exact g3 h), (fun h => by rw [eval_put_ne (by decide)]; exact g4 h), (fun h => by rw [eval_put_ne (by decide)]; exact g5 h), (fun h => by rw [eval_put_ne (by decide)]; exact g6 h), (fun _ => eval_put_same (by omega) _), (fun h => by rw [eval_put_ne (by decide)]; exact g8 h), (fun h => by rw [eval_put_ne (by decide)]; exact g9 h), (fun h => by rw [eval_put_ne (by decide)]; exact g10 h)⟩
    · cases ho
      have hdj := depB_spec d8 hd
      have r5 := g5 (hdj 5 (by decide))
      have r7 := g7 (hdj 7 (by decide))
      refine wpOp_call (R := fun u X' => u = .int .i64 E ∧ Rq X' ∧ BelT tyR B X X') rfl rfl (rd_CSync X a 119 121 122 _ _ _ r5 r7) ((hC X S.low (S.r0 hL)).mono fun e X' h => ⟨_, h.1, rfl, h.2⟩) ?_
      rintro u X' ⟨rfl, hq', hb'⟩
      show IregS _ _ _ _ _ _ _ _ _ _ _ _ _ _ a0 (upd L 8) (a.put (some 122) _) _
      exact ⟨hF.put (by decide) _, S.callC (by decide) hq' hb' (far_blk (by decide) S.ob) hpA hqA, (fun h => by rw [eval_put_ne (by decide)]; exact g0 h), (fun h => by rw [eval_put_ne (by decide)]; exact g1 h), (fun h => by rw [eval_put_ne (by decide)]; exact g2 h), (fun h => by rw [eval_put_ne (by decide)]; exact g3 h), (fun h => by rw [eval_put_ne (by decide)]; exact g4 h), (fun h => by rw [eval_put_ne (by decide)]; exact g5 h), (fun h => by rw [eval_put_ne (by decide)]; exact g6 h), (fun h => by rw [eval_put_ne (by decide)]; exact g7 h), (fun _ => eval_put_same (by omega) _), (fun h => by rw [eval_put_ne (by decide)]; exact g9 h), (fun h => by rw [eval_put_ne (by decide)]; exact g10 h)⟩
    · cases ho
      have hdj := depB_spec d9 hd
      have r4 := g4 (hdj 4 (by decide))
      have r8 := g8 (hdj 8 (by decide))
      refine wpOp_value rfl rfl (rd_eq X a 118 122 123 E _ _ _ r4 r8) ?_
      show IregS _ _ _ _ _ _ _ _ _ _ _ _ _ _ a0 (upd L 9) (a.put (some 123) _) _
      exact ⟨hF.put (by decide) _, S.other (by decide) (by decide), (fun h => by rw [eval_put_ne (by decide)]; exact g0 h), (fun h => by rw [eval_put_ne (by decide)]; exact g1 h), (fun h => by rw [eval_put_ne (by decide)]; exact g2 h), (fun h => by rw [eval_put_ne (by decide)]; exact g3 h), (fun h => by rw [eval_put_ne (by decide)]; exact g4 h), (fun h => by rw [eval_put_ne (by decide)]; exact g5 h), (fun h => by rw [eval_put_ne (by decide)]; exact g6 h), (fun h => by rw [eval_put_ne (by decide)]; exact g7 h), (fun h => by rw [eval_put_ne (by decide)]; exact g8 h), (fun _ => eval_put_same (by omega) _), (fun h => by rw [eval_put_ne (by decide)]; exact g10 h)⟩
    · cases ho
      have hdj := depB_spec d10 hd
      have r9 := g9 (hdj 9 (by decide))
      refine wpOp_value rfl rfl (rd_as X a 123 6 _ _ _ r9) ?_
      show IregS _ _ _ _ _ _ _ _ _ _ _ _ _ _ a0 (upd L 10) (a.put (some 6) _) _
      exact ⟨hF.put (by decide) _, S.other (by decide) (by decide), (fun h => by rw [eval_put_ne (by decide)]; exact g0 h), (fun h => by rw [eval_put_ne (by decide)]; exact g1 h), (fun h => by rw [eval_put_ne (by decide)]; exact g2 h), (fun h => by rw [eval_put_ne (by decide)]; exact g3 h), (fun h => by rw [eval_put_ne (by decide)]; exact g4 h), (fun h => by rw [eval_put_ne (by decide)]; exact g5 h), (fun h => by rw [eval_put_ne (by decide)]; exact g6 h), (fun h => by rw [eval_put_ne (by decide)]; exact g7 h), (fun h => by rw [eval_put_ne (by decide)]; exact g8 h), (fun h => by rw [eval_put_ne (by decide)]; exact g9 h), (fun _ => eval_put_same (by omega) _)⟩
    · cases ho
  · intro L a X hI hall
    subst hops
    obtain ⟨hF, S, g0, g1, g2, g3, g4, g5, g6, g7, g8, g9, g10⟩ := hI
    exact hQ a X hF.1 (g10 (hall 10 (by simp))) (S.p1 (hall 3 (by simp))) (S.r1 (hall 8 (by simp))) S.bel
end Go.Proofs.Ytfjkockcgddgbaa
