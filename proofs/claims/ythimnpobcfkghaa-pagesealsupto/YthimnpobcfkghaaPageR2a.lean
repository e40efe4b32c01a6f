/- The statement of relstoreref.Seal that makes a page's head, whatever its order is. -/
import Derived.Test.YthimnpobcfkghaaPageR1
namespace Go.Proofs.Ythimnpobcfkghaa
open Go.RowKit

theorem rn_fa (X : World) (a : Act) (B i k d : Nat) (hk : k = 0 ∨ k = 1 ∨ k = 2) (t : TypeId) (p : String) (f : Array Edge) (he : a.eval (.tmp i) = .pointer (some ⟨B, 0, none⟩)) :
    (execOp a.eval { dst := some d, op := .fieldAddr 45 (.tmp i) k, type := t, pos := p, after := f, guard := none }).run Try.prog X = .ok (.value (.pointer (some ⟨B, k, none⟩))) X := by
  simp only [execOp, he]
  rcases hk with rfl | rfl | rfl <;> go_simp
theorem rn_ldI (X : World) (a : Act) (A : Addr) (i d : Nat) (t : TypeId) (p : String) (f : Array Edge) {v : Value} (he : a.eval (.tmp i) = .pointer (some A)) (hc : X.cell? A = some v) :
    (execOp a.eval { dst := some d, op := .load 3 (.tmp i), type := t, pos := p, after := f, guard := none }).run Try.prog X = .ok (.value v) X := by
  simp only [execOp, he]
  go_simp
theorem rn_ldT (X : World) (a : Act) (A : Addr) (i d : Nat) (t : TypeId) (p : String) (f : Array Edge) {v : Value} (he : a.eval (.tmp i) = .pointer (some A)) (hc : X.cell? A = some v) :
    (execOp a.eval { dst := some d, op := .load 43 (.tmp i), type := t, pos := p, after := f, guard := none }).run Try.prog X = .ok (.value v) X := by
  simp only [execOp, he]
  go_simp
theorem rn_cv8 (X : World) (a : Act) (i d K : Nat) (hK : K < 256) (t : TypeId) (p : String) (f : Array Edge) (he : a.eval (.tmp i) = .int .i64 K) :
    (execOp a.eval { dst := some d, op := .convert 3 5 (.tmp i), type := t, pos := p, after := f, guard := none }).run Try.prog X = .ok (.value (.int .u8 K)) X := by
  have e1 : IntKind.u8.wrap ((K : Nat) : Int) = (K : Int) := by rw [IntKind.wrap_u8']; omega
  simp only [execOp, he]
  go_simp
theorem rn_cv64 (X : World) (a : Act) (i d n : Nat) (hn : n < 9223372036854775808) (t : TypeId) (p : String) (f : Array Edge) (he : a.eval (.tmp i) = .int .i64 n) :
    (execOp a.eval { dst := some d, op := .convert 3 63 (.tmp i), type := t, pos := p, after := f, guard := none }).run Try.prog X = .ok (.value (.int .u64 n)) X := by
  have e1 : IntKind.u64.wrap ((n : Nat) : Int) = (n : Int) := by simp only [IntKind.wrap, IntKind.bits, IntKind.signed]; simp; omega
  simp only [execOp, he]
  go_simp
theorem rn_bs2 (X : World) (a : Act) (i d K : Nat) (t : TypeId) (p : String) (f : Array Edge) (he : a.eval (.tmp i) = .int .u8 K) :
    (execOp a.eval { dst := some d, op := .buildSlice 66 2 #[(0, .tmp i), (1, .const (.int .u8 0))], type := t, pos := p, after := f, guard := none }).run Try.prog X = .ok (.value (.slice (some ⟨X.heap.size, 0, none⟩) 2 2)) (X.alloc (.cells #[.int .u8 K, .int .u8 0] 5)) := by
  have he' : a.tmps[i]?.getD undef = .int .u8 K := by simpa [Act.eval] using he
  clear he
  simp only [execOp]
  go_simp
theorem rn_cvS (X : World) (a : Act) (g i d K : Nat) (hK : K < 256) (t : TypeId) (p : String) (f : Array Edge) (he : a.eval (.tmp i) = .slice (some ⟨g, 0, none⟩) 2 2) (c0 : X.cell? ⟨g, 0, none⟩ = some (.int .u8 K)) (c1 : X.cell? ⟨g, 1, none⟩ = some (.int .u8 0)) :
    (execOp a.eval { dst := some d, op := .convert 66 9 (.tmp i), type := t, pos := p, after := f, guard := none }).run Try.prog X = .ok (.value (.string ⟨#[UInt8.ofNat K, 0]⟩)) X := by
  have h : (convert 66 9 (.slice (some ⟨g, 0, none⟩) 2 2)).run Try.prog X = .ok (.string ⟨#[UInt8.ofNat K, 0]⟩) X :=
    run_convert_bytes_back (P := Try.prog) X 66 9 5 ⟨g, 0, none⟩ 2 [UInt8.ofNat K, 0] Try.underlying66 Try.underlying5 Try.underlying9 (fun j hj => by
      have hj' : j < 2 := by simpa using hj
      rw [Addr.add_lit]
      have hm : K % 256 = K := Nat.mod_eq_of_lt hK
      match j, hj' with
      | 0, _ => rw [Nat.zero_add, c0]; simp [hm]
      | 1, _ => rw [Nat.zero_add, c1]; simp)
  simp only [execOp, he, Sem.run_bind, h, Result.andThen_ok, Sem.run_pure]
theorem rn_len (X : World) (a : Act) (i d n c : Nat) (g : Option Addr) (t : TypeId) (p : String) (f : Array Edge) (he : a.eval (.tmp i) = .slice g n c) :
    (execOp a.eval { dst := some d, op := .call { callee := .builtin .len, args := #[.tmp i], argTypes := #[43] }, type := t, pos := p, after := f, guard := none }).run Try.prog X = .ok (.value (.int .i64 n)) X := by
  have he' : a.tmps[i]?.getD undef = .slice g n c := by simpa [Act.eval] using he
  clear he
  simp only [execOp]
  go_simp
theorem rn_by (X : World) (a : Act) (i d : Nat) (c : Int) (t : TypeId) (p : String) (f : Array Edge) {u : Value} (hu : a.eval (.tmp i) = u) :
    (execOp a.eval { dst := some d, op := .call { callee := .value (.func 43), args := #[.tmp i, .const (.int .i64 c)], argTypes := #[63, 3] }, type := t, pos := p, after := f, guard := none }).run Try.prog X = .ok (.enter 43 #[u, .int .i64 c]) X := by
  subst hu
  simp only [execOp]
  go_simp
theorem rn_add (X : World) (a : Act) (i j d : Nat) (x y : ByteArray) (hz : x.size + y.size ≤ 1000000) (t : TypeId) (p : String) (f : Array Edge) (hi : a.eval (.tmp i) = .string x) (hj : a.eval (.tmp j) = .string y) :
    (execOp a.eval { dst := some d, op := .binOp .add 9 (.tmp i) (.tmp j) 9, type := t, pos := p, after := f, guard := none }).run Try.prog X = .ok (.value (.string (x ++ y))) X := by
  have h1 : (x.size : Int) + (y.size : Int) ≤ 9223372036854775807 := by omega
  have h2 : x.size + y.size ≤ 9223372036854775807 := by omega
  simp only [execOp, hi, hj]
  go_simp
theorem rn_as (X : World) (a : Act) (i d : Nat) (t : TypeId) (p : String) (f : Array Edge) {v : Value} (he : a.eval (.tmp i) = v) :
    (execOp a.eval { dst := some d, op := .assign (.tmp i), type := t, pos := p, after := f, guard := none }).run Try.prog X = .ok (.value v) X := by
  subst he
  simp only [execOp]
  go_simp
def hd0 (K : Nat) : ByteArray := ⟨#[UInt8.ofNat K, 0]⟩
def bb (n k : Nat) : ByteArray := ⟨(be n k).toArray⟩
theorem bb_size (n k : Nat) : (bb n k).size = k := by unfold bb; rw [size_mk, be_len]
def WregH (wc : World) (B K Lk : Nat) (av : Option Addr) (n cv : Nat) (L : Nat → Bool) (a : Act) (X : World) : Prop :=
  Below wc.heap.size wc X ∧
  (L 0 = true → a.eval (.tmp 37) = .pointer (some ⟨B, 0, none⟩)) ∧
  (L 1 = true → a.eval (.tmp 38) = .int .i64 K) ∧
  (L 2 = true → a.eval (.tmp 39) = .int .u8 K) ∧
  (L 3 = true → ∃ g, a.eval (.tmp 40) = .slice (some ⟨g, 0, none⟩) 2 2 ∧ g < X.heap.size ∧ X.cell? ⟨g, 0, none⟩ = some (.int .u8 K) ∧ X.cell? ⟨g, 1, none⟩ = some (.int .u8 0)) ∧
  (L 4 = true → a.eval (.tmp 41) = .string (hd0 K)) ∧
  (L 5 = true → a.eval (.tmp 42) = .pointer (some ⟨B, 2, none⟩)) ∧
  (L 6 = true → a.eval (.tmp 43) = .slice av n cv) ∧
  (L 7 = true → a.eval (.tmp 44) = .int .i64 n) ∧
  (L 8 = true → a.eval (.tmp 45) = .int .u64 n) ∧
  (L 9 = true → a.eval (.tmp 46) = .string (bb n 2)) ∧
  (L 10 = true → a.eval (.tmp 47) = .string (hd0 K ++ bb n 2)) ∧
  (L 11 = true → a.eval (.tmp 48) = .pointer (some ⟨B, 1, none⟩)) ∧
  (L 12 = true → a.eval (.tmp 49) = .int .i64 Lk) ∧
  (L 13 = true → a.eval (.tmp 50) = .int .u64 Lk) ∧
  (L 14 = true → a.eval (.tmp 51) = .string (bb Lk 4)) ∧
  (L 15 = true → a.eval (.tmp 52) = .string (hd0 K ++ bb n 2 ++ bb Lk 4)) ∧
  (L 16 = true → a.eval (.tmp 7) = .string (hd0 K ++ bb n 2 ++ bb Lk 4))
def IregH (wc : World) (B K Lk : Nat) (av : Option Addr) (n cv : Nat) (a0 : Act) (L : Nat → Bool) (a : Act) (X : World) : Prop := Fr [37, 38, 39, 40, 41, 42, 43, 44, 45, 46, 47, 48, 49, 50, 51, 52, 7] a0 a ∧ WregH wc B K Lk av n cv L a X

set_option maxHeartbeats 4000000 in
theorem regH {Q : Exit → Act → World → Prop} {ops : Array Oper} {id : Nat} {a0 : Act} {wc : World} (B K Lk : Nat) (av : Option Addr) (n cv : Nat) (hK : K < 256) (hL : Lk < 4294967296) (hn : n < 4294967296) (hz : B < wc.heap.size) (c0 : wc.cell? ⟨B, 0, none⟩ = some (.int .i64 K)) (c1 : wc.cell? ⟨B, 1, none⟩ = some (.int .i64 Lk)) (c2 : wc.cell? ⟨B, 2, none⟩ = some (.slice av n cv))
    (hsz : 52 < a0.tmps.size) (e1 : a0.eval (.tmp 1) = .pointer (some ⟨B, 0, none⟩))
    {t0 t1 t2 t3 t4 t5 t6 t7 t8 t9 t10 t11 t12 t13 t14 t15 t16 : TypeId} {p0 p1 p2 p3 p4 p5 p6 p7 p8 p9 p10 p11 p12 p13 p14 p15 p16 : String} {f0 f1 f2 f3 f4 f5 f6 f7 f8 f9 f10 f11 f12 f13 f14 f15 f16 : Array Edge}
    (hops : ops = #[⟨some 37, .fieldAddr 45 (.tmp 1) 0, t0, p0, f0, none⟩, ⟨some 38, .load 3 (.tmp 37), t1, p1, f1, none⟩, ⟨some 39, .convert 3 5 (.tmp 38), t2, p2, f2, none⟩, ⟨some 40, .buildSlice 66 2 #[(0, .tmp 39), (1, .const (.int .u8 0))], t3, p3, f3, none⟩, ⟨some 41, .convert 66 9 (.tmp 40), t4, p4, f4, none⟩, ⟨some 42, .fieldAddr 45 (.tmp 1) 2, t5, p5, f5, none⟩, ⟨some 43, .load 43 (.tmp 42), t6, p6, f6, none⟩, ⟨some 44, .call { callee := .builtin .len, args := #[.tmp 43], argTypes := #[43] }, t7, p7, f7, none⟩, ⟨some 45, .convert 3 63 (.tmp 44), t8, p8, f8, none⟩, ⟨some 46, .call { callee := .value (.func 43), args := #[.tmp 45, .const (.int .i64 2)], argTypes := #[63, 3] }, t9, p9, f9, none⟩, ⟨some 47, .binOp .add 9 (.tmp 41) (.tmp 46) 9, t10, p10, f10, none⟩, ⟨some 48, .fieldAddr 45 (.tmp 1) 1, t11, p11, f11, none⟩, ⟨some 49, .load 3 (.tmp 48), t12, p12, f12, none⟩, ⟨some 50, .convert 3 63 (.tmp 49), t13, p13, f13, none⟩, ⟨some 51, .call { callee := .value (.func 43), args := #[.tmp 50, .const (.int .i64 4)], argTypes := #[63, 3] }, t14, p14, f14, none⟩, ⟨some 52, .binOp .add 9 (.tmp 47) (.tmp 51) 9, t15, p15, f15, none⟩, ⟨some 7, .assign (.tmp 52), t16, p16, f16, none⟩])
    (hb : backB ops = true) (d1 : depB f1 [0] = true) (d2 : depB f2 [1] = true) (d3 : depB f3 [2] = true) (d4 : depB f4 [3] = true) (d6 : depB f6 [5] = true) (d7 : depB f7 [6] = true) (d8 : depB f8 [7] = true) (d9 : depB f9 [8] = true) (d10 : depB f10 [4, 9] = true) (d12 : depB f12 [11] = true) (d13 : depB f13 [12] = true) (d14 : depB f14 [13] = true) (d15 : depB f15 [10, 14] = true) (d16 : depB f16 [15] = true) (hm : Try.prog.follows .mixedOrders = true)
    (hQ : ∀ (u37 u38 u39 u40 u41 u42 u43 u44 u45 u46 u47 u48 u49 u50 u51 u52 : Value) X, Below wc.heap.size wc X → Q .normal ⟨sets [(37, u37), (38, u38), (39, u39), (40, u40), (41, u41), (42, u42), (43, u43), (44, u44), (45, u45), (46, u46), (47, u47), (48, u48), (49, u49), (50, u50), (51, u51), (52, u52), (7, .string (hd0 K ++ bb n 2 ++ bb Lk 4))] a0.tmps, a0.defers⟩ X) :
    (Code.region id ops true).wp Try.prog Q a0 wc := by
  refine wp_region_inv hm (IregH wc B K Lk av n cv) (backB_spec hb) ?_ ?_ ?_
  · refine ⟨Fr.refl _ _, (Below.refl _ _).drew, ?_⟩
    refine ⟨?_, ?_, ?_, ?_, ?_, ?_, ?_, ?_, ?_, ?_, ?_, ?_, ?_, ?_, ?_, ?_, ?_⟩ <;> intro h <;> exact absurd h (by decide)
  · intro L a X hI q o ho hL hd
    obtain ⟨hF, hB, g0, g1, g2, g3, g4, g5, g6, g7, g8, g9, g10, g11, g12, g13, g14, g15, g16⟩ := hI
    have hs : a.tmps.size = a0.tmps.size := hF.2.1
    have E1 : a.eval (.tmp 1) = .pointer (some ⟨B, 0, none⟩) := by rw [hF.eval (by decide), e1]
    subst hops
    obtain _ | _ | _ | _ | _ | _ | _ | _ | _ | _ | _ | _ | _ | _ | _ | _ | _ | q := q
    · cases ho
      refine wpOp_value rfl rfl (rn_fa X a B 1 0 37 (.inl rfl) _ _ _ E1) ?_
      show IregH _ _ _ _ _ _ _ a0 (upd L 0) (a.put (some 37) _) _
      exact ⟨hF.put (by decide) _, hB, (fun _ => eval_put_same (by omega) _), (fun h => by rw [eval_put_ne (by decide)]; exact g1 h), (fun h => by rw [eval_put_ne (by decide)]; exact g2 h), (fun h => by obtain ⟨g, e, z, r⟩ := g3 h; exact ⟨g, by rw [eval_put_ne (by decide)]; exact e, z, r⟩), (fun h => by rw [eval_put_ne (by decide)]; exact g4 h), (fun h => by rw [eval_put_ne (by decide)]; exact g5 h), (fun h => by rw [eval_put_ne (by decide)]; exact g6 h), (fun h => by rw [eval_put_ne (by decide)]; exact g7 h), (fun h => by rw [eval_put_ne (by decide)]; exact g8 h), (fun h => by rw [eval_put_ne (by decide)]; exact g9 h), (fun h => by rw [eval_put_ne (by decide)]; exact g10 h), (fun h => by rw [eval_put_ne (by decide)]; exact g11 h), (fun h => by rw [eval_put_ne (by decide)]; exact g12 h), (fun h => by rw [eval_put_ne (by decide)]; exact g13 h), (fun h => by rw [eval_put_ne (by decide)]; exact g14 h), (fun h => by rw [eval_put_ne (by decide)]; exact g15 h), (fun h => by rw [eval_put_ne (by decide)]; exact g16 h)⟩
    · cases ho
      have hdj := depB_spec d1 hd
      refine wpOp_value rfl rfl (rn_ldI X a _ 37 38 _ _ _ (g0 (hdj 0 (by decide))) (keepCell hB hz c0)) ?_
      show IregH _ _ _ _ _ _ _ a0 (upd L 1) (a.put (some 38) _) _
      exact ⟨hF.put (by decide) _, hB, (fun h => by rw [eval_put_ne (by decide)]; exact g0 h), (fun _ => eval_put_same (by omega) _), (fun h => by rw [eval_put_ne (by decide)]; exact g2 h), (fun h => by obtain ⟨g, e, z, r⟩ := g3 h; exact ⟨g, by rw [eval_put_ne (by decide)]; exact e, z, r⟩), (fun h => by rw [eval_put_ne (by decide)]; exact g4 h), (fun h => by rw [eval_put_ne (by decide)]; exact g5 h), (fun h => by rw [eval_put_ne (by decide)]; exact g6 h), (fun h => by rw [eval_put_ne (by decide)]; exact g7 h), (fun h => by rw [eval_put_ne (by decide)]; exact g8 h), (fun h => by rw [eval_put_ne (by decide)]; exact g9 h), (fun h => by rw [eval_put_ne (by decide)]; exact g10 h), (fun h => by rw [eval_put_ne (by decide)]; exact g11 h), (fun h => by rw [eval_put_ne (by decide)]; exact g12 h), (fun h => by rw [eval_put_ne (by decide)]; exact g13 h), (fun h => by rw [eval_put_ne (by decide)]; exact g14 h), (fun h => by rw [eval_put_ne (by decide)]; exact g15 h), (fun h => by rw [eval_put_ne (by decide)]; exact g16 h)⟩
    · cases ho
      have hdj := depB_spec d2 hd
      refine wpOp_value rfl rfl (rn_cv8 X a 38 39 K (by omega) _ _ _ (g1 (hdj 1 (by decide)))) ?_
      show IregH _ _ _ _ _ _ _ a0 (upd L 2) (a.put (some 39) _) _
      exact ⟨hF.put (by decide) _, hB, (fun h => by rw [eval_put_ne (by decide)]; exact g0 h), (fun h => by rw [eval_put_ne (by decide)]; exact g1 h), (fun _ => eval_put_same (by omega) _), (fun h => by obtain ⟨g, e, z, r⟩ := g3 h; exact ⟨g, by rw [eval_put_ne (by decide)]; exact e, z, r⟩), (fun h => by rw [eval_put_ne (by decide)]; exact g4 h), (fun h => by rw [eval_put_ne (by decide)]; exact g5 h), (fun h => by rw [eval_put_ne (by decide)]; exact g6 h), (fun h => by rw [eval_put_ne (by decide)]; exact g7 h), (fun h => by rw [eval_put_ne (by decide)]; exact g8 h), (fun h => by rw [eval_put_ne (by decide)]; exact g9 h), (fun h => by rw [eval_put_ne (by decide)]; exact g10 h), (fun h => by rw [eval_put_ne (by decide)]; exact g11 h), (fun h => by rw [eval_put_ne (by decide)]; exact g12 h), (fun h => by rw [eval_put_ne (by decide)]; exact g13 h), (fun h => by rw [eval_put_ne (by decide)]; exact g14 h), (fun h => by rw [eval_put_ne (by decide)]; exact g15 h), (fun h => by rw [eval_put_ne (by decide)]; exact g16 h)⟩
    · cases ho
      have hdj := depB_spec d3 hd
      have hb' : Below X.heap.size X (X.alloc (.cells #[.int .u8 K, .int .u8 0] 5)) := (Below.refl _ _).alloc (Nat.le_refl _) _
      refine wpOp_value rfl rfl (rn_bs2 X a 39 40 K _ _ _ (g2 (hdj 2 (by decide)))) ?_
      show IregH _ _ _ _ _ _ _ a0 (upd L 3) (a.put (some 40) _) _
      exact ⟨hF.put (by decide) _, keepBelow hB hb', (fun h => by rw [eval_put_ne (by decide)]; exact g0 h), (fun h => by rw [eval_put_ne (by decide)]; exact g1 h), (fun h => by rw [eval_put_ne (by decide)]; exact g2 h), (fun _ => ⟨X.heap.size, eval_put_same (by omega) _, by simp, ⟨by go_simp, by go_simp⟩⟩), (fun h => by rw [eval_put_ne (by decide)]; exact g4 h), (fun h => by rw [eval_put_ne (by decide)]; exact g5 h), (fun h => by rw [eval_put_ne (by decide)]; exact g6 h), (fun h => by rw [eval_put_ne (by decide)]; exact g7 h), (fun h => by rw [eval_put_ne (by decide)]; exact g8 h), (fun h => by rw [eval_put_ne (by decide)]; exact g9 h), (fun h => by rw [eval_put_ne (by decide)]; exact g10 h), (fun h => by rw [eval_put_ne (by decide)]; exact g11 h), (fun h => by rw [eval_put_ne (by decide)]; exact g12 h), (fun h => by rw [eval_put_ne (by decide)]; exact g13 h), (fun h => by rw [eval_put_ne (by decide)]; exact g14 h), (fun h => by rw [eval_put_ne (by decide)]; exact g15 h), (fun h => by rw [eval_put_ne (by decide)]; exact g16 h)⟩
    · cases ho
      have hdj := depB_spec d4 hd
      obtain ⟨g, xg, zg, r0, r1⟩ := g3 (hdj 3 (by decide))
      refine wpOp_value rfl rfl (rn_cvS X a g 40 41 K (by omega) _ _ _ xg r0 r1) ?_
      show IregH _ _ _ _ _ _ _ a0 (upd L 4) (a.put (some 41) _) _
      exact ⟨hF.put (by decide) _, hB, (fun h => by rw [eval_put_ne (by decide)]; exact g0 h), (fun h => by rw [eval_put_ne (by decide)]; exact g1 h), (fun h => by rw [eval_put_ne (by decide)]; exact g2 h), (fun h => by obtain ⟨g, e, z, r⟩ := g3 h; exact ⟨g, by rw [eval_put_ne (by decide)]; exact e, z, r⟩), (fun _ => eval_put_same (by omega) _), (fun h => by rw [eval_put_ne (by decide)]; exact g5 h), (fun h => by rw [eval_put_ne (by decide)]; exact g6 h), (fun h => by rw [eval_put_ne (by decide)]; exact g7 h), (fun h => by rw [eval_put_ne (by decide)]; exact g8 h), (fun h => by rw [eval_put_ne (by decide)]; exact g9 h), (fun h => by rw [eval_put_ne (by decide)]; exact g10 h), (fun h => by rw [eval_put_ne (by decide)]; exact g11 h), (fun h => by rw [eval_put_ne (by decide)]; exact g12 h), (fun h => by rw [eval_put_ne (by decide)]; exact g13 h), (fun h => by rw [eval_put_ne (by decide)]; exact g14 h), (fun h => by rw [eval_put_ne (by decide)]; exact g15 h), (fun h => by rw [eval_put_ne (by decide)]; exact g16 h)⟩
    · cases ho
      refine wpOp_value rfl rfl (rn_fa X a B 1 2 42 (.inr (.inr rfl)) _ _ _ E1) ?_
      show IregH _ _ _ _ _ _ _ a0 (upd L 5) (a.put (some 42) _) _
      exact ⟨hF.put (by decide) _, hB, (fun h => by rw [eval_put_ne (by decide)]; exact g0 h), (fun h => by rw [eval_put_ne (by decide)]; exact g1 h), (fun h => by rw [eval_put_ne (by decide)]; exact g2 h), (fun h => by obtain ⟨g, e, z, r⟩ := g3 h; exact ⟨g, by rw [eval_put_ne (by decide)]; exact e, z, r⟩), (fun h => by rw [eval_put_ne (by decide)]; exact g4 h), (fun _ => eval_put_same (by omega) _), (fun h => by rw [eval_put_ne (by decide)]; exact g6 h), (fun h => by rw [eval_put_ne (by decide)]; exact g7 h), (fun h => by rw [eval_put_ne (by decide)]; exact g8 h), (fun h => by rw [eval_put_ne (by decide)]; exact g9 h), (fun h => by rw [eval_put_ne (by decide)]; exact g10 h), (fun h => by rw [eval_put_ne (by decide)]; exact g11 h), (fun h => by rw [eval_put_ne (by decide)]; exact g12 h), (fun h => by rw [eval_put_ne (by decide)]; exact g13 h), (fun h => by rw [eval_put_ne (by decide)]; exact g14 h), (fun h => by rw [eval_put_ne (by decide)]; exact g15 h), (fun h => by rw [eval_put_ne (by decide)]; exact g16 h)⟩
    · cases ho
      have hdj := depB_spec d6 hd
      refine wpOp_value rfl rfl (rn_ldT X a _ 42 43 _ _ _ (g5 (hdj 5 (by decide))) (keepCell hB hz c2)) ?_
      show IregH _ _ _ _ _ _ _ a0 (upd L 6) (a.put (some 43) _) _
      exact ⟨hF.put (by decide) _, hB, (fun h => by rw [eval_put_ne (by decide)]; exact g0 h), (fun h => by rw [eval_put_ne (by decide)]; exact g1 h), (fun h => by rw [eval_put_ne (by decide)]; exact g2 h), (fun h => by obtain ⟨g, e, z, r⟩ := g3 h; exact ⟨g, by rw [eval_put_ne (by decide)]; exact e, z, r⟩), (fun h => by rw [eval_put_ne (by decide)]; exact g4 h), (fun h => by rw [eval_put_ne (by decide)]; exact g5 h), (fun _ => eval_put_same (by omega) _), (fun h => by rw [eval_put_ne (by decide)]; exact g7 h), (fun h => by rw [eval_put_ne (by decide)]; exact g8 h), (fun h => by rw [eval_put_ne (by decide)]; exact g9 h), (fun h => by rw [eval_put_ne (by decide)]; exact g10 h), (fun h => by rw [eval_put_ne (by decide)]; exact g11 h), (fun h => by rw [eval_put_ne (by decide)]; exact g12 h), (fun h => by rw [eval_put_ne (by decide)]; exact g13 h), (fun h => by rw [eval_put_ne (by decide)]; exact g14 h), (fun h => by rw [eval_put_ne (by decide)]; exact g15 h), (fun h => by rw [eval_put_ne (by decide)]; exact g16 h)⟩
    · cases ho
      have hdj := depB_spec d7 hd
      refine wpOp_value rfl rfl (rn_len X a 43 44 n cv av _ _ _ (g6 (hdj 6 (by decide)))) ?_
      show IregH _ _ _ _ _ _ _ a0 (upd L 7) (a.put (some 44) _) _
      exact ⟨hF.put (by decide) _, hB, (fun h => by rw [eval_put_ne (by decide)]; exact g0 h), (fun h => by rw [eval_put_ne (by decide)]; exact g1 h), (fun h => by rw [eval_put_ne (by decide)]; exact g2 h), (fun h => by obtain ⟨g, e, z, r⟩ := g3 h; exact ⟨g, by rw [eval_put_ne (by decide)]; exact e, z, r⟩), (fun h => by rw [eval_put_ne (by decide)]; exact g4 h), (fun h => by rw [eval_put_ne (by decide)]; exact g5 h), (fun h => by rw [eval_put_ne (by decide)]; exact g6 h), (fun _ => eval_put_same (by omega) _), (fun h => by rw [eval_put_ne (by decide)]; exact g8 h), (fun h => by rw [eval_put_ne (by decide)]; exact g9 h), (fun h => by rw [eval_put_ne (by decide)]; exact g10 h), (fun h => by rw [eval_put_ne (by decide)]; exact g11 h), (fun h => by rw [eval_put_ne (by decide)]; exact g12 h), (fun h => by rw [eval_put_ne (by decide)]; exact g13 h), (fun h => by rw [eval_put_ne (by decide)]; exact g14 h), (fun h => by rw [eval_put_ne (by decide)]; exact g15 h), (fun h => by rw [eval_put_ne (by decide)]; exact g16 h)⟩
    · cases ho
      have hdj := depB_spec d8 hd
      refine wpOp_value rfl rfl (rn_cv64 X a 44 45 n (by omega) _ _ _ (g7 (hdj 7 (by decide)))) ?_
      show IregH _ _ _ _ _ _ _ a0 (upd L 8) (a.put (some 45) _) _
      exact ⟨hF.put (by decide) _, hB, (fun h => by rw [eval_put_ne (by decide)]; exact g0 h), (fun h => by rw [eval_put_ne (by decide)]; exact g1 h), (fun h => by rw [eval_put_ne (by decide)]; exact g2 h), (fun h => by obtain ⟨g, e, z, r⟩ := g3 h; exact ⟨g, by rw [eval_put_ne (by decide)]; exact e, z, r⟩), (fun h => by rw [eval_put_ne (by decide)]; exact g4 h), (fun h => by rw [eval_put_ne (by decide)]; exact g5 h), (fun h => by rw [eval_put_ne (by decide)]; exact g6 h), (fun h => by rw [eval_put_ne (by decide)]; exact g7 h), (fun _ => eval_put_same (by omega) _), (fun h => by rw [eval_put_ne (by decide)]; exact g9 h), (fun h => by rw [eval_put_ne (by decide)]; exact g10 h), (fun h => by rw [eval_put_ne (by decide)]; exact g11 h), (fun h => by rw [eval_put_ne (by decide)]; exact g12 h), (fun h => by rw [eval_put_ne (by decide)]; exact g13 h), (fun h => by rw [eval_put_ne (by decide)]; exact g14 h), (fun h => by rw [eval_put_ne (by decide)]; exact g15 h), (fun h => by rw [eval_put_ne (by decide)]; exact g16 h)⟩
    · cases ho
      have hdj := depB_spec d9 hd
      refine wpOp_call (R := fun u X' => u = .string (bb n 2) ∧ Below X.heap.size X X') rfl rfl (rn_by X a 45 46 2 _ _ _ (g8 (hdj 8 (by decide)))) ((rbytes n 2 X (by omega) (by omega)).mono fun e X' h => ⟨_, h.1, rfl, h.2⟩) ?_
      rintro u X' ⟨rfl, hb'⟩
      show IregH _ _ _ _ _ _ _ a0 (upd L 9) (a.put (some 46) _) _
      exact ⟨hF.put (by decide) _, keepBelow hB hb', (fun h => by rw [eval_put_ne (by decide)]; exact g0 h), (fun h => by rw [eval_put_ne (by decide)]; exact g1 h), (fun h => by rw [eval_put_ne (by decide)]; exact g2 h), (fun h => by obtain ⟨g, e, z, r⟩ := g3 h; exact ⟨g, by rw [eval_put_ne (by decide)]; exact e, keepSize hb' z, ⟨keepCell hb' z r.1, keepCell hb' z r.2⟩⟩), (fun h => by rw [eval_put_ne (by decide)]; exact g4 h), (fun h => by rw [eval_put_ne (by decide)]; exact g5 h), (fun h => by rw [eval_put_ne (by decide)]; exact g6 h), (fun h => by rw [eval_put_ne (by decide)]; exact g7 h), (fun h => by rw [eval_put_ne (by decide)]; exact g8 h), (fun _ => eval_put_same (by omega) _), (fun h => by rw [eval_put_ne (by decide)]; exact g10 h), (fun h => by rw [eval_put_ne (by decide)]; exact g11 h), (fun h => by rw [eval_put_ne (by decide)]; exact g12 h), (fun h => by rw [eval_put_ne (by decide)]; exact g13 h), (fun h => by rw [eval_put_ne (by decide)]; exact g14 h), (fun h => by rw [eval_put_ne (by decide)]; exact g15 h), (fun h => by rw [eval_put_ne (by decide)]; exact g16 h)⟩
    · cases ho
      have hdj := depB_spec d10 hd
      refine wpOp_value rfl rfl (rn_add X a 41 46 47 _ _ (by rw [bb_size]; show 2 + 2 ≤ _; omega) _ _ _ (g4 (hdj 4 (by decide))) (g9 (hdj 9 (by decide)))) ?_
      show IregH _ _ _ _ _ _ _ a0 (upd L 10) (a.put (some 47) _) _
      exact ⟨hF.put (by decide) _, hB, (fun h => by rw [eval_put_ne (by decide)]; exact g0 h), (fun h => by rw [eval_put_ne (by decide)]; exact g1 h), (fun h => by rw [eval_put_ne (by decide)]; exact g2 h), (fun h => by obtain ⟨g, e, z, r⟩ := g3 h; exact ⟨g, by rw [eval_put_ne (by decide)]; exact e, z, r⟩), (fun h => by rw [eval_put_ne (by decide)]; exact g4 h), (fun h => by rw [eval_put_ne (by decide)]; exact g5 h), (fun h => by rw [eval_put_ne (by decide)]; exact g6 h), (fun h => by rw [eval_put_ne (by decide)]; exact g7 h), (fun h => by rw [eval_put_ne (by decide)]; exact g8 h), (fun h => by rw [eval_put_ne (by decide)]; exact g9 h), (fun _ => eval_put_same (by omega) _), (fun h => by rw [eval_put_ne (by decide)]; exact g11 h), (fun h => by rw [eval_put_ne (by decide)]; exact g12 h), (fun h => by rw [eval_put_ne (by decide)]; exact g13 h), (fun h => by rw [eval_put_ne (by decide)]; exact g14 h), (fun h => by rw [eval_put_ne (by decide)]; exact g15 h), (fun h => by rw [eval_put_ne (by decide)]; exact g16 h)⟩
    · cases ho
      refine wpOp_value rfl rfl (rn_fa X a B 1 1 48 (.inr (.inl rfl)) _ _ _ E1) ?_
      show IregH _ _ _ _ _ _ _ a0 (upd L 11) (a.put (some 48) _) _
      exact ⟨hF.put (by decide) _, hB, (fun h => by rw [eval_put_ne (by decide)]; exact g0 h), (fun h => by rw [eval_put_ne (by decide)]; exact g1 h), (fun h => by rw [eval_put_ne (by decide)]; exact g2 h), (fun h => by obtain ⟨g, e, z, r⟩ := g3 h; exact ⟨g, by rw [eval_put_ne (by decide)]; exact e, z, r⟩), (fun h => by rw [eval_put_ne (by decide)]; exact g4 h), (fun h => by rw [eval_put_ne (by decide)]; exact g5 h), (fun h => by rw [eval_put_ne (by decide)]; exact g6 h), (fun h => by rw [eval_put_ne (by decide)]; exact g7 h), (fun h => by rw [eval_put_ne (by decide)]; exact g8 h), (fun h => by rw [eval_put_ne (by decide)]; exact g9 h), (fun h => by rw [eval_put_ne (by decide)]; exact g10 h), (fun _ => eval_put_same (by omega) _), (fun h => by rw [eval_put_ne (by decide)]; exact g12 h), (fun h => by rw [eval_put_ne (by decide)]; exact g13 h), (fun h => by rw [eval_put_ne (by decide)]; exact g14 h), (fun h => by rw [eval_put_ne (by decide)]; exact g15 h), (fun h => by rw [eval_put_ne (by decide)]; exact g16 h)⟩
    · cases ho
      have hdj := depB_spec d12 hd
      refine wpOp_value rfl rfl (rn_ldI X a _ 48 49 _ _ _ (g11 (hdj 11 (by decide))) (keepCell hB hz c1)) ?_
      show IregH _ _ _ _ _ _ _ a0 (upd L 12) (a.put (some 49) _) _
      exact ⟨hF.put (by decide) _, hB, (fun h => by rw [eval_put_ne (by decide)]; exact g0 h), (fun h => by rw [eval_put_ne (by decide)]; exact g1 h), (fun h => by rw [eval_put_ne (by decide)]; exact g2 h), (fun h => by obtain ⟨g, e, z, r⟩ := g3 h; exact ⟨g, by rw [eval_put_ne (by decide)]; exact e, z, r⟩), (fun h => by rw [eval_put_ne (by decide)]; exact g4 h), (fun h => by rw [eval_put_ne (by decide)]; exact g5 h), (fun h => by rw [eval_put_ne (by decide)]; exact g6 h), (fun h => by rw [eval_put_ne (by decide)]; exact g7 h), (fun h => by rw [eval_put_ne (by decide)]; exact g8 h), (fun h => by rw [eval_put_ne (by decide)]; exact g9 h), (fun h => by rw [eval_put_ne (by decide)]; exact g10 h), (fun h => by rw [eval_put_ne (by decide)]; exact g11 h), (fun _ => eval_put_same (by omega) _), (fun h => by rw [eval_put_ne (by decide)]; exact g13 h), (fun h => by rw [eval_put_ne (by decide)]; exact g14 h), (fun h => by rw [eval_put_ne (by decide)]; exact g15 h), (fun h => by rw [eval_put_ne (by decide)]; exact g16 h)⟩
    · cases ho
      have hdj := depB_spec d13 hd
      refine wpOp_value rfl rfl (rn_cv64 X a 49 50 Lk (by omega) _ _ _ (g12 (hdj 12 (by decide)))) ?_
      show IregH _ _ _ _ _ _ _ a0 (upd L 13) (a.put (some 50) _) _
      exact ⟨hF.put (by decide) _, hB, (fun h => by rw [eval_put_ne (by decide)]; exact g0 h), (fun h => by rw [eval_put_ne (by decide)]; exact g1 h), (fun h => by rw [eval_put_ne (by decide)]; exact g2 h), (fun h => by obtain ⟨g, e, z, r⟩ := g3 h; exact ⟨g, by rw [eval_put_ne (by decide)]; exact e, z, r⟩), (fun h => by rw [eval_put_ne (by decide)]; exact g4 h), (fun h => by rw [eval_put_ne (by decide)]; exact g5 h), (fun h => by rw [eval_put_ne (by decide)]; exact g6 h), (fun h => by rw [eval_put_ne (by decide)]; exact g7 h), (fun h => by rw [eval_put_ne (by decide)]; exact g8 h), (fun h => by rw [eval_put_ne (by decide)]; exact g9 h), (fun h => by rw [eval_put_ne (by decide)]; exact g10 h), (fun h => by rw [eval_put_ne (by decide)]; exact g11 h), (fun h => by rw [eval_put_ne (by decide)]; exact g12 h), (fun _ => eval_put_same (by omega) _), (fun h => by rw [eval_put_ne (by decide)]; exact g14 h), (fun h => by rw [eval_put_ne (by decide)]; exact g15 h), (fun h => by rw [eval_put_ne (by decide)]; exact g16 h)⟩
    · cases ho
      have hdj := depB_spec d14 hd
      refine wpOp_call (R := fun u X' => u = .string (bb Lk 4) ∧ Below X.heap.size X X') rfl rfl (rn_by X a 50 51 4 _ _ _ (g13 (hdj 13 (by decide)))) ((rbytes Lk 4 X (by omega) (by omega)).mono fun e X' h => ⟨_, h.1, rfl, h.2⟩) ?_
      rintro u X' ⟨rfl, hb'⟩
      show IregH _ _ _ _ _ _ _ a0 (upd L 14) (a.put (some 51) _) _
      exact ⟨hF.put (by decide) _, keepBelow hB hb', (fun h => by rw [eval_put_ne (by decide)]; exact g0 h), (fun h => by rw [eval_put_ne (by decide)]; exact g1 h), (fun h => by rw [eval_put_ne (by decide)]; exact g2 h), (fun h => by obtain ⟨g, e, z, r⟩ := g3 h; exact ⟨g, by rw [eval_put_ne (by decide)]; exact e, keepSize hb' z, ⟨keepCell hb' z r.1, keepCell hb' z r.2⟩⟩), (fun h => by rw [eval_put_ne (by decide)]; exact g4 h), (fun h => by rw [eval_put_ne (by decide)]; exact g5 h), (fun h => by rw [eval_put_ne (by decide)]; exact g6 h), (fun h => by rw [eval_put_ne (by decide)]; exact g7 h), (fun h => by rw [eval_put_ne (by decide)]; exact g8 h), (fun h => by rw [eval_put_ne (by decide)]; exact g9 h), (fun h => by rw [eval_put_ne (by decide)]; exact g10 h), (fun h => by rw [eval_put_ne (by decide)]; exact g11 h), (fun h => by rw [eval_put_ne (by decide)]; exact g12 h), (fun h => by rw [eval_put_ne (by decide)]; exact g13 h), (fun _ => eval_put_same (by omega) _), (fun h => by rw [eval_put_ne (by decide)]; exact g15 h), (fun h => by rw [eval_put_ne (by decide)]; exact g16 h)⟩
    · cases ho
      have hdj := depB_spec d15 hd
      refine wpOp_value rfl rfl (rn_add X a 47 51 52 _ _ (by rw [ByteArray.size_append, bb_size, bb_size]; show 2 + 2 + 4 ≤ _; omega) _ _ _ (g10 (hdj 10 (by decide))) (g14 (hdj 14 (by decide)))) ?_
      show IregH _ _ _ _ _ _ _ a0 (upd L 15) (a.put (some 52) _) _
      exact ⟨hF.put (by decide) _, hB, (fun h => by rw [eval_put_ne (by decide)]; exact g0 h), (fun h => by rw [eval_put_ne (by decide)]; exact g1 h), (fun h => by rw [eval_put_ne (by decide)]; exact g2 h), (fun h => by obtain ⟨g, e, z, r⟩ := g3 h; exact ⟨g, by rw [eval_put_ne (by decide)]; exact e, z, r⟩), (fun h => by rw [eval_put_ne (by decide)]; exact g4 h), (fun h => by rw [eval_put_ne (by decide)]; exact g5 h), (fun h => by rw [eval_put_ne (by decide)]; exact g6 h), (fun h => by rw [eval_put_ne (by decide)]; exact g7 h), (fun h => by rw [eval_put_ne (by decide)]; exact g8 h), (fun h => by rw [eval_put_ne (by decide)]; exact g9 h), (fun h => by rw [eval_put_ne (by decide)]; exact g10 h), (fun h => by rw [eval_put_ne (by decide)]; exact g11 h), (fun h => by rw [eval_put_ne (by decide)]; exact g12 h), (fun h => by rw [eval_put_ne (by decide)]; exact g13 h), (fun h => by rw [eval_put_ne (by decide)]; exact g14 h), (fun _ => eval_put_same (by omega) _), (fun h => by rw [eval_put_ne (by decide)]; exact g16 h)⟩
    · cases ho
      have hdj := depB_spec d16 hd
      refine wpOp_value rfl rfl (rn_as X a 52 7 _ _ _ (g15 (hdj 15 (by decide)))) ?_
      show IregH _ _ _ _ _ _ _ a0 (upd L 16) (a.put (some 7) _) _
      exact ⟨hF.put (by decide) _, hB, (fun h => by rw [eval_put_ne (by decide)]; exact g0 h), (fun h => by rw [eval_put_ne (by decide)]; exact g1 h), (fun h => by rw [eval_put_ne (by decide)]; exact g2 h), (fun h => by obtain ⟨g, e, z, r⟩ := g3 h; exact ⟨g, by rw [eval_put_ne (by decide)]; exact e, z, r⟩), (fun h => by rw [eval_put_ne (by decide)]; exact g4 h), (fun h => by rw [eval_put_ne (by decide)]; exact g5 h), (fun h => by rw [eval_put_ne (by decide)]; exact g6 h), (fun h => by rw [eval_put_ne (by decide)]; exact g7 h), (fun h => by rw [eval_put_ne (by decide)]; exact g8 h), (fun h => by rw [eval_put_ne (by decide)]; exact g9 h), (fun h => by rw [eval_put_ne (by decide)]; exact g10 h), (fun h => by rw [eval_put_ne (by decide)]; exact g11 h), (fun h => by rw [eval_put_ne (by decide)]; exact g12 h), (fun h => by rw [eval_put_ne (by decide)]; exact g13 h), (fun h => by rw [eval_put_ne (by decide)]; exact g14 h), (fun h => by rw [eval_put_ne (by decide)]; exact g15 h), (fun _ => eval_put_same (by omega) _)⟩
    · cases ho
  · intro L a X hI hall
    subst hops
    obtain ⟨hF, hB, g0, g1, g2, g3, g4, g5, g6, g7, g8, g9, g10, g11, g12, g13, g14, g15, g16⟩ := hI
    have hs : a.tmps.size = a0.tmps.size := hF.2.1
    have hv := g16 (hall 16 (by simp))
    rw [hF.eq [(37, a.eval (.tmp 37)), (38, a.eval (.tmp 38)), (39, a.eval (.tmp 39)), (40, a.eval (.tmp 40)), (41, a.eval (.tmp 41)), (42, a.eval (.tmp 42)), (43, a.eval (.tmp 43)), (44, a.eval (.tmp 44)), (45, a.eval (.tmp 45)), (46, a.eval (.tmp 46)), (47, a.eval (.tmp 47)), (48, a.eval (.tmp 48)), (49, a.eval (.tmp 49)), (50, a.eval (.tmp 50)), (51, a.eval (.tmp 51)), (52, a.eval (.tmp 52)), (7, .string (hd0 K ++ bb n 2 ++ bb Lk 4))] (by simp) (by simp [hv]; omega)]
    exact hQ _ _ _ _ _ _ _ _ _ _ _ _ _ _ _ _ X hB
end Go.Proofs.Ythimnpobcfkghaa
