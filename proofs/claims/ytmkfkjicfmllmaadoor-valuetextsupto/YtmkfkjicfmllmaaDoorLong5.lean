/- The statement of relstoreref's times that adds one row of a product, whatever its order is. -/
import Derived.Test.YtmkfkjicfmllmaaDoorReg
import Derived.Test.YtmkfkjicfmllmaaDoorLong4
import Derived.Deep.Upon
import Derived.Laws.OwnMore
namespace Go.Proofs.YtmkfkjicfmllmaaDoor
open Go.RowKit

/- digits moved up by so many places -/
def sh (f : Nat → Int) (i j : Nat) : Int := if j < i then 0 else f (j - i)
theorem sh_valid {f : Nat → Int} {n : Nat} (h : valid f n) (i : Nat) : valid (sh f i) (i + n) := by
  intro j hj
  unfold sh
  split
  · omega
  · exact h _ (by omega)
theorem pw_add (i : Nat) : ∀ k, pw (i + k) = pw i * pw k
  | 0 => by rw [Nat.add_zero, pw_0, Int.mul_one]
  | k + 1 => by rw [← Nat.add_assoc, pw_s, pw_add i k, pw_s, ← Int.mul_assoc, ← Int.mul_assoc, Int.mul_comm 10000 (pw i)]
theorem val_sh (f : Nat → Int) (i : Nat) : ∀ n, val (sh f i) (i + n) = val f n * pw i
  | 0 => by
    rw [Nat.add_zero, val_zero (f := sh f i) (k := 0) (Nat.zero_le i) (fun j _ hj => by unfold sh; rw [if_pos hj])]
    simp [val]
  | n + 1 => by
    rw [← Nat.add_assoc, val_s, val_sh f i n, val_s, Int.add_mul]
    have : sh f i (i + n) = f n := by unfold sh; rw [if_neg (by omega)]; congr 1; omega
    rw [this, pw_add, Int.mul_assoc, Int.mul_comm (pw i)]
def zeros (i : Nat) : List Int := List.replicate i 0
def upto (f : Nat → Int) (n : Nat) : List Int := (List.range n).map f
theorem gt_zeros (i j : Nat) (f : Nat → Int) (n : Nat) (h : j < i + n) : gt (zeros i ++ upto f n) j = sh f i j := by
  unfold gt sh zeros upto
  split
  · rw [List.getD_eq_getElem?_getD, List.getElem?_append_left (by simpa using ‹_›)]
    simp [‹j < i›]
  · rw [List.getD_eq_getElem?_getD, List.getElem?_append_right (by simp; omega)]
    simp only [List.length_replicate, List.getElem?_map]
    rw [List.getElem?_range (by omega)]
    simp
theorem dga_congr {w : World} {a : Option Addr} {n : Nat} {f g : Nat → Int} (h : DgA w a n f) (e : ∀ i, i < n → f i = g i) : DgA w a n g := by
  rcases h with h | ⟨b, off, e1, hlt, h⟩
  · exact Or.inl h
  · exact Or.inr ⟨b, off, e1, hlt, fun i hi => by rw [h i hi, e i hi]⟩
theorem zeros_made (i : Nat) : (madeCells (Value.int .i64 0).cells (i * 1)).toList = vals (zeros i) := by
  simp [madeCells, vals, zeros, Value.cells, Nat.mod_one, List.map_const']

theorem run_fa (X : World) (a : Act) (B i d : Nat) (t : TypeId) (p : String) (f : Array Edge) (he : a.eval (.tmp i) = .pointer (some ⟨B, 0, none⟩)) :
    (execOp a.eval { dst := some d, op := .fieldAddr 45 (.tmp i) 1, type := t, pos := p, after := f, guard := none }).run Tryd.prog X = .ok (.value (.pointer (some ⟨B, 1, none⟩))) X := by
  simp only [execOp, he]
  go_simp
theorem run_ldS (X : World) (a : Act) (A : Addr) (i d : Nat) (t : TypeId) (p : String) (f : Array Edge) {v : Value} (hc : X.cell? A = some v) (he : a.eval (.tmp i) = .pointer (some A)) :
    (execOp a.eval { dst := some d, op := .load 43 (.tmp i), type := t, pos := p, after := f, guard := none }).run Tryd.prog X = .ok (.value v) X := by
  simp only [execOp, he]
  go_simp
theorem run_mv (X : World) (a : Act) (i d : Nat) (t : TypeId) (p : String) (f : Array Edge) {v : Value} (he : a.eval (.tmp i) = v) :
    (execOp a.eval { dst := some d, op := .move (.tmp i), type := t, pos := p, after := f, guard := none }).run Tryd.prog X = .ok (.value v) X := by
  subst he
  simp only [execOp]
  go_simp
theorem run_mk (X : World) (a : Act) (n i d : Nat) (t : TypeId) (p : String) (f : Array Edge) (base : Nat) (hb : base ≤ X.heap.size) (hn : n ≤ 100) (he : a.eval (.tmp i) = .int .i64 n) :
    ∃ X', (execOp a.eval { dst := some d, op := .makeSlice 43 (.tmp i) (.tmp i), type := t, pos := p, after := f, guard := none }).run Tryd.prog X = .ok (.value (.slice (some ⟨X.heap.size, 0, none⟩) n n)) X' ∧
      X'.ownsRow base 3 1 (.slice (some ⟨X.heap.size, 0, none⟩) n n) n (vals (zeros n)) ∧ X.grownBy X' none := by
  obtain ⟨i0, hi, hz0, hz1, hz2⟩ := info_parts infoI
  obtain ⟨X', h1, h2, h3⟩ := run_make_full (w := X) base 43 3 i0 (.int .i64 0) 1 Tryd.underlying43 hi hz0 hz1 .i64 .i64 n (by rw [hz2]; omega) (by unfold maxLen; omega) hb
  refine ⟨X', ?_, by rw [← zeros_made]; exact h2, h3⟩
  simp only [execOp, he, Sem.run_bind, h1, Result.andThen_ok, Sem.run_pure]
theorem run_ap0 (X : World) (a : Act) (g i : Nat) (av : Option Addr) (cv : Nat) (j k d : Nat) (t : TypeId) (p : String) (f : Array Edge) (hu : a.eval (.tmp j) = .slice (some ⟨g, 0, none⟩) i i) (hv : a.eval (.tmp k) = .slice av 0 cv) :
    (execOp a.eval { dst := some d, op := .call { callee := .builtin .append, args := #[.tmp j, .tmp k], argTypes := #[43, 43] }, type := t, pos := p, after := f, guard := none }).run Tryd.prog X = .ok (.value (.slice (some ⟨g, 0, none⟩) i i)) X := by
  obtain ⟨i0, hi0, hz0, hz1, hz2⟩ := info_parts infoI
  have hs : Src Tryd.prog i0.size 43 (.slice av 0 cv) 0 [] X := by
    cases av with
    | none => exact Src.ofNil X Tryd.underlying43 cv
    | some ad => exact Src.ofSlice X Tryd.underlying43 ad 0 cv [] (by simp) (fun j u h => by simp at h) (fun u h => by cases h)
  have hr := run_append_nothing (P := Tryd.prog) X 43 43 t 3 i0 Tryd.underlying43 hi0 (some ⟨g, 0, none⟩) i i (Nat.le_refl _) (.slice av 0 cv) hs
  simp only [execOp, resolve, invoke, builtin, Sem.run_bind, Sem.run_pure, Result.andThen_ok, List.map_toArray, List.map_cons, List.map_nil, hu, hv, hr]
theorem run_jo (X : World) (a : Act) (i j k d : Nat) (t : TypeId) (p : String) (f : Array Edge) {u v x : Value} (hu : a.eval (.tmp i) = u) (hv : a.eval (.tmp j) = v) (hx : a.eval (.tmp k) = x) :
    (execOp a.eval { dst := some d, op := .call { callee := .value (.func 37), args := #[.tmp i, .tmp j, .tmp k], argTypes := #[43, 43, 3] }, type := t, pos := p, after := f, guard := none }).run Tryd.prog X = .ok (.enter 37 #[u, v, x]) X := by
  subst hu hv hx
  simp only [execOp]
  go_simp
theorem run_stS (X : World) (a : Act) (A : Addr) (i j : Nat) (t : TypeId) (p : String) (f : Array Edge) {u : Value} {g : Option Addr} {k c : Nat} (hc : X.cell? A = some u) (hz : X.frozen? A = false) (he : a.eval (.tmp i) = .pointer (some A)) (hv : a.eval (.tmp j) = .slice g k c) :
    (execOp a.eval { dst := none, op := .store 43 (.tmp i) (.tmp j), type := t, pos := p, after := f, guard := none }).run Tryd.prog X = .ok .skip (X.setCell A (.slice g k c)) := by
  simp only [execOp, he, hv]
  go_simp

/- a row of the product: the cells' worlds -/
def Wt (wc : World) (B i n : Nat) (f : Nat → Int) (ao : Option Addr) (ko co : Nat) (av : Option Addr) (cv : Nat) (T V : Int) (L : Nat → Bool) (a : Act) (X : World) : Prop :=
  Below wc.heap.size wc X ∧
  (L 0 = true → a.eval (.tmp 22) = .pointer (some ⟨B + 3, 1, none⟩)) ∧ (L 1 = true → a.eval (.tmp 23) = .slice ao ko co) ∧
  (L 2 = true → a.eval (.tmp 24) = .int .i64 i) ∧
  (L 3 = true → ∃ g, a.eval (.tmp 25) = .slice (some ⟨g, 0, none⟩) i i ∧ (L 6 = false → X.ownsRow wc.heap.size 3 1 (.slice (some ⟨g, 0, none⟩) i i) i (vals (zeros i)))) ∧
  (L 4 = true → a.eval (.tmp 26) = .pointer (some ⟨B, 1, none⟩)) ∧ (L 5 = true → a.eval (.tmp 27) = .slice av n cv) ∧
  (L 6 = true → ∃ g c, a.eval (.tmp 28) = .slice g (i + n) c ∧ (L 8 = false → DgA X g (i + n) (sh f i))) ∧
  (L 7 = true → a.eval (.tmp 29) = .int .i64 T) ∧
  (L 8 = true → ∃ g k c h, a.eval (.tmp 30) = .slice g k c ∧ k ≤ max ko (i + n) + 1 ∧ k ≤ c ∧ DgA X g k h ∧ valid h k ∧ norm h k ∧ val h k = V) ∧
  (L 9 = true → a.eval (.tmp 31) = .pointer (some ⟨B + 3, 1, none⟩)) ∧ (L 6 = true → L 3 = true) ∧ (L 8 = true → L 6 = true)
def It (wc : World) (B i n : Nat) (f : Nat → Int) (ao : Option Addr) (ko co : Nat) (av : Option Addr) (cv : Nat) (T V : Int) (a0 : Act) (L : Nat → Bool) (a : Act) (X : World) : Prop :=
  Fr [22, 23, 24, 25, 26, 27, 28, 29, 30, 31] a0 a ∧ (L 10 = true → ∀ q, q < 10 → L q = true) ∧
  (L 10 = true → ∃ g k c h Y, X = Y.setCell ⟨B + 3, 1, none⟩ (.slice g k c) ∧ Below wc.heap.size wc Y ∧ k ≤ max ko (i + n) + 1 ∧ k ≤ c ∧ DgA Y g k h ∧ valid h k ∧ norm h k ∧ val h k = V) ∧
  (L 10 = false → Wt wc B i n f ao ko co av cv T V L a X)

set_option maxHeartbeats 2000000 in
theorem regT {Q : Exit → Act → World → Prop} {ops : Array Oper} {id : Nat} {a0 : Act} {wc : World} (B i n : Nat) (f fo : Nat → Int) (ao : Option Addr) (ko co : Nat) (av : Option Addr) (cv : Nat) (T : Int) {r p : Bool}
    (hi : i ≤ 40) (hn : n ≤ 900000) (hko : ko ≤ 900100) (hT : 0 ≤ T ∧ T ≤ 9999) (HX : Box2 wc (B + 3) 45 (.bool r) (.slice ao ko co)) (HA : Box2 wc B 45 (.bool p) (.slice av n cv)) (hO : DgA wc ao ko fo) (hvo : valid fo ko) (hD : DgA wc av n f) (hvf : valid f n)
    (hsz : 31 < a0.tmps.size) (e2 : a0.eval (.tmp 2) = .pointer (some ⟨B, 0, none⟩)) (e5 : a0.eval (.tmp 5) = .pointer (some ⟨B + 3, 0, none⟩)) (e6 : a0.eval (.tmp 6) = .int .i64 i) (e7 : a0.eval (.tmp 7) = .int .i64 T)
    {t0 t1 t2 t3 t4 t5 t6 t7 t8 t9 t10 : TypeId} {p0 p1 p2 p3 p4 p5 p6 p7 p8 p9 p10 : String} {f0 f1 f2 f3 f4 f5 f6 f7 f8 f9 f10 : Array Edge}
    (hops : ops = #[⟨some 22, .fieldAddr 45 (.tmp 5) 1, t0, p0, f0, none⟩, ⟨some 23, .load 43 (.tmp 22), t1, p1, f1, none⟩, ⟨some 24, .move (.tmp 6), t2, p2, f2, none⟩,
      ⟨some 25, .makeSlice 43 (.tmp 24) (.tmp 24), t3, p3, f3, none⟩, ⟨some 26, .fieldAddr 45 (.tmp 2) 1, t4, p4, f4, none⟩, ⟨some 27, .load 43 (.tmp 26), t5, p5, f5, none⟩,
      ⟨some 28, .call { callee := .builtin .append, args := #[.tmp 25, .tmp 27], argTypes := #[43, 43] }, t6, p6, f6, none⟩, ⟨some 29, .move (.tmp 7), t7, p7, f7, none⟩,
      ⟨some 30, .call { callee := .value (.func 37), args := #[.tmp 23, .tmp 28, .tmp 29], argTypes := #[43, 43, 3] }, t8, p8, f8, none⟩,
      ⟨some 31, .fieldAddr 45 (.tmp 5) 1, t9, p9, f9, none⟩, ⟨none, .store 43 (.tmp 31) (.tmp 30), t10, p10, f10, none⟩])
    (hb : backB ops = true) (d1 : depB f1 [0] = true) (d3 : depB f3 [2] = true) (d5 : depB f5 [4] = true) (d6 : depB f6 [3, 5] = true) (d8 : depB f8 [1, 6, 7] = true) (d10 : depB f10 [0, 1, 2, 3, 4, 5, 6, 7, 8, 9] = true) (hm : Tryd.prog.follows .mixedOrders = true)
    (hQ : ∀ (u22 u23 u24 u25 u26 u27 u28 u29 u30 u31 : Value) g k c h Y, Below wc.heap.size wc Y → k ≤ max ko (i + n) + 1 → k ≤ c → DgA Y g k h → valid h k → norm h k → val h k = val fo ko + T * (val f n * pw i) →
      Q .normal ⟨sets [(22, u22), (23, u23), (24, u24), (25, u25), (26, u26), (27, u27), (28, u28), (29, u29), (30, u30), (31, u31)] a0.tmps, a0.defers⟩ (Y.setCell ⟨B + 3, 1, none⟩ (.slice g k c))) :
    (Code.region id ops true).wp Tryd.prog Q a0 wc := by
  refine wp_region_inv hm (It wc B i n f ao ko co av cv T (val fo ko + T * (val f n * pw i))) (backB_spec hb) ?_ ?_ ?_
  · refine ⟨Fr.refl _ _, fun h => absurd h (by decide), fun h => absurd h (by decide), fun _ => ⟨(Below.refl _ _).drew, ?_⟩⟩
    refine ⟨?_, ?_, ?_, ?_, ?_, ?_, ?_, ?_, ?_, ?_, ?_, ?_⟩ <;> intro h <;> exact absurd h (by decide)
  · intro L a X hI q o ho hL hd
    obtain ⟨hF, hA, -, hW⟩ := hI
    have hs : a.tmps.size = a0.tmps.size := hF.2.1
    have E2 : a.eval (.tmp 2) = .pointer (some ⟨B, 0, none⟩) := by rw [hF.eval (by decide), e2]
    have E5 : a.eval (.tmp 5) = .pointer (some ⟨B + 3, 0, none⟩) := by rw [hF.eval (by decide), e5]
    have E6 : a.eval (.tmp 6) = .int .i64 i := by rw [hF.eval (by decide), e6]
    have E7 : a.eval (.tmp 7) = .int .i64 T := by rw [hF.eval (by decide), e7]
    have h10 : L 10 = false := by
      cases h : L 10 with
      | false => rfl
      | true =>
        by_cases e : q = 10
        · rw [e, h] at hL; cases hL
        · subst hops
          have hq : q < 11 := (Array.getElem?_eq_some_iff.1 ho).1
          rw [hA h q (by omega)] at hL; cases hL
    have hno : L 10 = true → False := fun h => by rw [h10] at h; cases h
    obtain ⟨hB, g0, g1, g2, g3, g4, g5, g6, g7, g8, g9, c63, c86⟩ := hW h10
    clear hW hA
    have HX' := HX.below hB
    have HA' := HA.below hB
    subst hops
    obtain _ | _ | _ | _ | _ | _ | _ | _ | _ | _ | _ | q := q
    · cases ho
      refine wpOp_value rfl rfl (run_fa X a (B + 3) 5 22 _ _ _ E5) ?_
      show It _ _ _ _ _ _ _ _ _ _ _ _ a0 (upd L 0) (a.put (some 22) _) _
      exact ⟨hF.put (by decide) _, fun h => (hno h).elim, fun h => (hno h).elim, fun _ => ⟨hB, (fun _ => eval_put_same (by omega) _), (fun h => by rw [eval_put_ne (by decide)]; exact g1 h), (fun h => by rw [eval_put_ne (by decide)]; exact g2 h), (fun h => by obtain ⟨g, e, r⟩ := g3 h; exact ⟨g, by rw [eval_put_ne (by decide)]; exact e, r⟩), (fun h => by rw [eval_put_ne (by decide)]; exact g4 h), (fun h => by rw [eval_put_ne (by decide)]; exact g5 h), (fun h => by obtain ⟨g, c, e, r⟩ := g6 h; exact ⟨g, c, by rw [eval_put_ne (by decide)]; exact e, r⟩), (fun h => by rw [eval_put_ne (by decide)]; exact g7 h), (fun h => by obtain ⟨g, k, c, h', e, r⟩ := g8 h; exact ⟨g, k, c, h', by rw [eval_put_ne (by decide)]; exact e, r⟩), (fun h => by rw [eval_put_ne (by decide)]; exact g9 h), (fun h => c63 h), (fun h => c86 h)⟩⟩
    · cases ho
      have hdj := depB_spec d1 hd
      refine wpOp_value rfl rfl (run_ldS X a _ 22 23 _ _ _ HX'.cell1 (g0 (hdj 0 (by decide)))) ?_
      show It _ _ _ _ _ _ _ _ _ _ _ _ a0 (upd L 1) (a.put (some 23) _) _
      exact ⟨hF.put (by decide) _, fun h => (hno h).elim, fun h => (hno h).elim, fun _ => ⟨hB, (fun h => by rw [eval_put_ne (by decide)]; exact g0 h), (fun _ => eval_put_same (by omega) _), (fun h => by rw [eval_put_ne (by decide)]; exact g2 h), (fun h => by obtain ⟨g, e, r⟩ := g3 h; exact ⟨g, by rw [eval_put_ne (by decide)]; exact e, r⟩), (fun h => by rw [eval_put_ne (by decide)]; exact g4 h), (fun h => by rw [eval_put_ne (by decide)]; exact g5 h), (fun h => by obtain ⟨g, c, e, r⟩ := g6 h; exact ⟨g, c, by rw [eval_put_ne (by decide)]; exact e, r⟩), (fun h => by rw [eval_put_ne (by decide)]; exact g7 h), (fun h => by obtain ⟨g, k, c, h', e, r⟩ := g8 h; exact ⟨g, k, c, h', by rw [eval_put_ne (by decide)]; exact e, r⟩), (fun h => by rw [eval_put_ne (by decide)]; exact g9 h), (fun h => c63 h), (fun h => c86 h)⟩⟩
    · cases ho
      refine wpOp_value rfl rfl (run_mv X a 6 24 _ _ _ E6) ?_
      show It _ _ _ _ _ _ _ _ _ _ _ _ a0 (upd L 2) (a.put (some 24) _) _
      exact ⟨hF.put (by decide) _, fun h => (hno h).elim, fun h => (hno h).elim, fun _ => ⟨hB, (fun h => by rw [eval_put_ne (by decide)]; exact g0 h), (fun h => by rw [eval_put_ne (by decide)]; exact g1 h), (fun _ => eval_put_same (by omega) _), (fun h => by obtain ⟨g, e, r⟩ := g3 h; exact ⟨g, by rw [eval_put_ne (by decide)]; exact e, r⟩), (fun h => by rw [eval_put_ne (by decide)]; exact g4 h), (fun h => by rw [eval_put_ne (by decide)]; exact g5 h), (fun h => by obtain ⟨g, c, e, r⟩ := g6 h; exact ⟨g, c, by rw [eval_put_ne (by decide)]; exact e, r⟩), (fun h => by rw [eval_put_ne (by decide)]; exact g7 h), (fun h => by obtain ⟨g, k, c, h', e, r⟩ := g8 h; exact ⟨g, k, c, h', by rw [eval_put_ne (by decide)]; exact e, r⟩), (fun h => by rw [eval_put_ne (by decide)]; exact g9 h), (fun h => c63 h), (fun h => c86 h)⟩⟩
    · cases ho
      have hdj := depB_spec d3 hd
      have h63 : L 6 = false := by cases h : L 6 with | false => rfl | true => rw [c63 h] at hL; cases hL
      have h83 : L 8 = false := by cases h : L 8 with | false => rfl | true => rw [c86 h] at h63; cases h63
      obtain ⟨X', hr, hown, hgr⟩ := run_mk X a i 24 25 t3 p3 f3 wc.heap.size hB.size (by omega) (g2 (hdj 2 (by decide)))
      refine wpOp_value rfl rfl hr ?_
      have hB' : Below wc.heap.size wc X' := hB.grown hgr hB.size (fun k hk => by cases hk)
      show It _ _ _ _ _ _ _ _ _ _ _ _ a0 (upd L 3) (a.put (some 25) _) _
      exact ⟨hF.put (by decide) _, fun h => (hno h).elim, fun h => (hno h).elim, fun _ => ⟨hB', (fun h => by rw [eval_put_ne (by decide)]; exact g0 h), (fun h => by rw [eval_put_ne (by decide)]; exact g1 h), (fun h => by rw [eval_put_ne (by decide)]; exact g2 h), (fun _ => ⟨X.heap.size, eval_put_same (by omega) _, fun _ => hown⟩), (fun h => by rw [eval_put_ne (by decide)]; exact g4 h), (fun h => by rw [eval_put_ne (by decide)]; exact g5 h), (fun h => by have h6 : L 6 = false := h63; rw [upd_ne _ (by decide), h6] at h; cases h), (fun h => by rw [eval_put_ne (by decide)]; exact g7 h), (fun h => by rw [upd_ne _ (by decide), h83] at h; cases h), (fun h => by rw [eval_put_ne (by decide)]; exact g9 h), (fun _ => upd_same _ _), (fun h => c86 h)⟩⟩
    · cases ho
      refine wpOp_value rfl rfl (run_fa X a B 2 26 _ _ _ E2) ?_
      show It _ _ _ _ _ _ _ _ _ _ _ _ a0 (upd L 4) (a.put (some 26) _) _
      exact ⟨hF.put (by decide) _, fun h => (hno h).elim, fun h => (hno h).elim, fun _ => ⟨hB, (fun h => by rw [eval_put_ne (by decide)]; exact g0 h), (fun h => by rw [eval_put_ne (by decide)]; exact g1 h), (fun h => by rw [eval_put_ne (by decide)]; exact g2 h), (fun h => by obtain ⟨g, e, r⟩ := g3 h; exact ⟨g, by rw [eval_put_ne (by decide)]; exact e, r⟩), (fun _ => eval_put_same (by omega) _), (fun h => by rw [eval_put_ne (by decide)]; exact g5 h), (fun h => by obtain ⟨g, c, e, r⟩ := g6 h; exact ⟨g, c, by rw [eval_put_ne (by decide)]; exact e, r⟩), (fun h => by rw [eval_put_ne (by decide)]; exact g7 h), (fun h => by obtain ⟨g, k, c, h', e, r⟩ := g8 h; exact ⟨g, k, c, h', by rw [eval_put_ne (by decide)]; exact e, r⟩), (fun h => by rw [eval_put_ne (by decide)]; exact g9 h), (fun h => c63 h), (fun h => c86 h)⟩⟩
    · cases ho
      have hdj := depB_spec d5 hd
      refine wpOp_value rfl rfl (run_ldS X a _ 26 27 _ _ _ HA'.cell1 (g4 (hdj 4 (by decide)))) ?_
      show It _ _ _ _ _ _ _ _ _ _ _ _ a0 (upd L 5) (a.put (some 27) _) _
      exact ⟨hF.put (by decide) _, fun h => (hno h).elim, fun h => (hno h).elim, fun _ => ⟨hB, (fun h => by rw [eval_put_ne (by decide)]; exact g0 h), (fun h => by rw [eval_put_ne (by decide)]; exact g1 h), (fun h => by rw [eval_put_ne (by decide)]; exact g2 h), (fun h => by obtain ⟨g, e, r⟩ := g3 h; exact ⟨g, by rw [eval_put_ne (by decide)]; exact e, r⟩), (fun h => by rw [eval_put_ne (by decide)]; exact g4 h), (fun _ => eval_put_same (by omega) _), (fun h => by obtain ⟨g, c, e, r⟩ := g6 h; exact ⟨g, c, by rw [eval_put_ne (by decide)]; exact e, r⟩), (fun h => by rw [eval_put_ne (by decide)]; exact g7 h), (fun h => by obtain ⟨g, k, c, h', e, r⟩ := g8 h; exact ⟨g, k, c, h', by rw [eval_put_ne (by decide)]; exact e, r⟩), (fun h => by rw [eval_put_ne (by decide)]; exact g9 h), (fun h => c63 h), (fun h => c86 h)⟩⟩
    · cases ho
      have hdj := depB_spec d6 hd
      have h83 : L 8 = false := by cases h : L 8 with | false => rfl | true => rw [c86 h] at hL; cases hL
      obtain ⟨g, x25, hown'⟩ := g3 (hdj 3 (by decide))
      have x27 := g5 (hdj 5 (by decide))
      have hown := hown' hL
      obtain ⟨i0, hi0, hz0, hz1, hz2⟩ := info_parts infoI
      have hge : wc.heap.size ≤ g := ((World.ownsRow.lt hown) g rfl).1
      rcases Nat.eq_zero_or_pos n with hn0 | hn0
      · subst hn0
        refine wpOp_value rfl rfl (run_ap0 X a g i av cv 25 27 28 _ _ _ x25 x27) ?_
        show It _ _ _ _ _ _ _ _ _ _ _ _ a0 (upd L 6) (a.put (some 28) _) _
        have hdg : DgA X (some ⟨g, 0, none⟩) (i + 0) (sh f i) := by
          rcases Nat.eq_zero_or_pos i with h0 | h0
          · exact Or.inl (by omega)
          · obtain ⟨g', cap', e, _, hd'⟩ := dg_own hown h0
            cases e
            exact dga_congr hd' (fun j hj => by have hj' : j < i := hj; unfold sh gt zeros; rw [if_pos hj']; simp [List.getD_eq_getElem?_getD, hj'])
        exact ⟨hF.put (by decide) _, fun h => (hno h).elim, fun h => (hno h).elim, fun _ => ⟨hB, (fun h => by rw [eval_put_ne (by decide)]; exact g0 h), (fun h => by rw [eval_put_ne (by decide)]; exact g1 h), (fun h => by rw [eval_put_ne (by decide)]; exact g2 h), (fun h => by obtain ⟨g, e, r⟩ := g3 h; exact ⟨g, by rw [eval_put_ne (by decide)]; exact e, fun h => by rw [upd_same] at h; cases h⟩), (fun h => by rw [eval_put_ne (by decide)]; exact g4 h), (fun h => by rw [eval_put_ne (by decide)]; exact g5 h), (fun _ => ⟨_, _, eval_put_same (by omega) _, fun _ => hdg⟩), (fun h => by rw [eval_put_ne (by decide)]; exact g7 h), (fun h => by rw [upd_ne _ (by decide), h83] at h; cases h), (fun h => by rw [eval_put_ne (by decide)]; exact g9 h), (fun _ => hdj 3 (by decide)), (fun _ => upd_same _ _)⟩⟩
      · obtain ⟨b, off, rfl, hlt, hcells⟩ : ∃ b off, av = some ⟨b, off, none⟩ ∧ b < X.heap.size ∧ ∀ j, j < n → X.cell? ⟨b, off + j, none⟩ = some (.int .i64 (f j)) := by
          rcases hD.below hB with h | h
          · omega
          · exact h
        unfold wpOp
        simp only [Region.wanted]
        refine Or.inl ?_
        refine wp_append_lies X (.tmp 25) (.tmp 27) 43 rfl wc.heap.size 3 i0 (.int .i64 0) 1 8 Tryd.underlying43 hi0 hz0 hz1 hz2 rfl (by decide) _ i (vals (zeros i)) x25 hown ⟨b, off, none⟩ n cv (vals (upto f n)) x27 (by simp [vals, upto]) ?_ ?_ hn0 (by unfold maxLen; omega) (by omega) hB.size _ rfl ?_
        · intro j u hu
          have hj : j < n := by
            have := (List.getElem?_eq_some_iff.1 hu).1
            simpa [vals, upto] using this
          have : u = .int .i64 (f j) := by
            simp only [vals, upto, List.getElem?_map, List.getElem?_range hj] at hu
            simpa using hu.symm
          rw [this]
          rw [Addr.add_lit]; exact hcells j hj
        · intro u hu
          simp only [vals, List.mem_map] at hu
          obtain ⟨x, _, rfl⟩ := hu
          rfl
        intro gg c1 X' hown1 hgrow hat hlt1
        have hB' : Below wc.heap.size wc X' := hB.grown hgrow hB.size (fun k hk => by cases hk; exact hge)
        have hdg : DgA X' (some ⟨gg, 0, none⟩) (i + n) (sh f i) := by
          have hown2 : X'.ownsRow wc.heap.size 3 1 (.slice (some ⟨gg, 0, none⟩) (i + n) c1) (i + n) (vals (zeros i ++ upto f n)) := by
            have e : vals (zeros i) ++ vals (upto f n) = vals (zeros i ++ upto f n) := by simp [vals]
            rw [← e]; exact hown1
          obtain ⟨g', cap', e, _, hd'⟩ := dg_own hown2 (by omega)
          cases e
          exact dga_congr hd' (fun j hj => gt_zeros i j f n hj)
        show It _ _ _ _ _ _ _ _ _ _ _ _ a0 (upd L 6) (a.put (some 28) _) _
        exact ⟨hF.put (by decide) _, fun h => (hno h).elim, fun h => (hno h).elim, fun _ => ⟨hB', (fun h => by rw [eval_put_ne (by decide)]; exact g0 h), (fun h => by rw [eval_put_ne (by decide)]; exact g1 h), (fun h => by rw [eval_put_ne (by decide)]; exact g2 h), (fun h => by obtain ⟨g, e, r⟩ := g3 h; exact ⟨g, by rw [eval_put_ne (by decide)]; exact e, fun h => by rw [upd_same] at h; cases h⟩), (fun h => by rw [eval_put_ne (by decide)]; exact g4 h), (fun h => by rw [eval_put_ne (by decide)]; exact g5 h), (fun _ => ⟨_, _, eval_put_same (by omega) _, fun _ => hdg⟩), (fun h => by rw [eval_put_ne (by decide)]; exact g7 h), (fun h => by rw [upd_ne _ (by decide), h83] at h; cases h), (fun h => by rw [eval_put_ne (by decide)]; exact g9 h), (fun _ => hdj 3 (by decide)), (fun _ => upd_same _ _)⟩⟩
    · cases ho
      refine wpOp_value rfl rfl (run_mv X a 7 29 _ _ _ E7) ?_
      show It _ _ _ _ _ _ _ _ _ _ _ _ a0 (upd L 7) (a.put (some 29) _) _
      exact ⟨hF.put (by decide) _, fun h => (hno h).elim, fun h => (hno h).elim, fun _ => ⟨hB, (fun h => by rw [eval_put_ne (by decide)]; exact g0 h), (fun h => by rw [eval_put_ne (by decide)]; exact g1 h), (fun h => by rw [eval_put_ne (by decide)]; exact g2 h), (fun h => by obtain ⟨g, e, r⟩ := g3 h; exact ⟨g, by rw [eval_put_ne (by decide)]; exact e, r⟩), (fun h => by rw [eval_put_ne (by decide)]; exact g4 h), (fun h => by rw [eval_put_ne (by decide)]; exact g5 h), (fun h => by obtain ⟨g, c, e, r⟩ := g6 h; exact ⟨g, c, by rw [eval_put_ne (by decide)]; exact e, r⟩), (fun _ => eval_put_same (by omega) _), (fun h => by obtain ⟨g, k, c, h', e, r⟩ := g8 h; exact ⟨g, k, c, h', by rw [eval_put_ne (by decide)]; exact e, r⟩), (fun h => by rw [eval_put_ne (by decide)]; exact g9 h), (fun h => c63 h), (fun h => c86 h)⟩⟩
    · cases ho
      have hdj := depB_spec d8 hd
      have x23 := g1 (hdj 1 (by decide))
      obtain ⟨g, c, x28, hdg⟩ := g6 (hdj 6 (by decide))
      have hdg := hdg hL
      have x29 := g7 (hdj 7 (by decide))
      refine wpOp_call (R := fun v X' => ∃ g k c h, v = .slice g k c ∧ k ≤ max ko (i + n) + 1 ∧ k ≤ c ∧ DgA X' g k h ∧ valid h k ∧ norm h k ∧ val h k = val fo ko + T * (val f n * pw i) ∧ Below X.heap.size X X') rfl rfl (run_jo X a 23 28 29 30 _ _ _ x23 x28 x29) ?_ ?_
      · refine (cjoint ao ko co g (i + n) c T fo (sh f i) X (hO.below hB) hdg (by omega) (by omega) hvo (sh_valid hvf i) (Or.inr hT)).mono ?_
        rintro e X' ⟨a'', k, cap'', h, rfl, l1, l2, l3, l4, l5, l6, l7⟩
        exact ⟨_, rfl, a'', k, cap'', h, rfl, l1, l2, l3, l4, l5, by rw [l6, val_sh], l7⟩
      rintro v X' ⟨g', k, c', h, rfl, l1, l2, l3, l4, l5, l6, l7⟩
      have hB' : Below wc.heap.size wc X' := hB.trans (l7.mono hB.size)
      show It _ _ _ _ _ _ _ _ _ _ _ _ a0 (upd L 8) (a.put (some 30) _) _
      exact ⟨hF.put (by decide) _, fun h => (hno h).elim, fun h => (hno h).elim, fun _ => ⟨hB', (fun h => by rw [eval_put_ne (by decide)]; exact g0 h), (fun h => by rw [eval_put_ne (by decide)]; exact g1 h), (fun h => by rw [eval_put_ne (by decide)]; exact g2 h), (fun h => by obtain ⟨g, e, r⟩ := g3 h; exact ⟨g, by rw [eval_put_ne (by decide)]; exact e, fun h => by rw [upd_ne _ (by decide), hdj 6 (by decide)] at h; cases h⟩), (fun h => by rw [eval_put_ne (by decide)]; exact g4 h), (fun h => by rw [eval_put_ne (by decide)]; exact g5 h), (fun h => by obtain ⟨g, c, e, r⟩ := g6 h; exact ⟨g, c, by rw [eval_put_ne (by decide)]; exact e, fun h => by rw [upd_same] at h; cases h⟩), (fun h => by rw [eval_put_ne (by decide)]; exact g7 h), (fun _ => ⟨_, _, _, _, eval_put_same (by omega) _, l1, l2, l3, l4, l5, l6⟩), (fun h => by rw [eval_put_ne (by decide)]; exact g9 h), (fun h => c63 h), (fun _ => hdj 6 (by decide))⟩⟩
    · cases ho
      refine wpOp_value rfl rfl (run_fa X a (B + 3) 5 31 _ _ _ E5) ?_
      show It _ _ _ _ _ _ _ _ _ _ _ _ a0 (upd L 9) (a.put (some 31) _) _
      exact ⟨hF.put (by decide) _, fun h => (hno h).elim, fun h => (hno h).elim, fun _ => ⟨hB, (fun h => by rw [eval_put_ne (by decide)]; exact g0 h), (fun h => by rw [eval_put_ne (by decide)]; exact g1 h), (fun h => by rw [eval_put_ne (by decide)]; exact g2 h), (fun h => by obtain ⟨g, e, r⟩ := g3 h; exact ⟨g, by rw [eval_put_ne (by decide)]; exact e, r⟩), (fun h => by rw [eval_put_ne (by decide)]; exact g4 h), (fun h => by rw [eval_put_ne (by decide)]; exact g5 h), (fun h => by obtain ⟨g, c, e, r⟩ := g6 h; exact ⟨g, c, by rw [eval_put_ne (by decide)]; exact e, r⟩), (fun h => by rw [eval_put_ne (by decide)]; exact g7 h), (fun h => by obtain ⟨g, k, c, h', e, r⟩ := g8 h; exact ⟨g, k, c, h', by rw [eval_put_ne (by decide)]; exact e, r⟩), (fun _ => eval_put_same (by omega) _), (fun h => c63 h), (fun h => c86 h)⟩⟩
    · cases ho
      have hdj := depB_spec d10 hd
      obtain ⟨g, k, c, h, x30, l⟩ := g8 (hdj 8 (by decide))
      refine wpOp_skip rfl rfl (run_stS X a _ 31 30 _ _ _ HX'.cell1 (HX'.frozen 1) (g9 (hdj 9 (by decide))) x30) ?_
      show It _ _ _ _ _ _ _ _ _ _ _ _ a0 (upd L 10) a _
      refine ⟨hF, fun _ q hq => ?_, fun _ => ⟨g, k, c, h, X, rfl, hB, l⟩, fun h => by rw [upd_same] at h; cases h⟩
      rw [upd_ne _ (by omega)]
      exact hdj q (by simp; omega)
    · cases ho
  · intro L a X hI hall
    subst hops
    obtain ⟨hF, -, hfin, -⟩ := hI
    obtain ⟨g, k, c, h, Y, rfl, l1, l2, l3, l4, l5, l6, l7⟩ := hfin (hall 10 (by simp))
    have hs : a.tmps.size = a0.tmps.size := hF.2.1
    rw [hF.eq [(22, a.eval (.tmp 22)), (23, a.eval (.tmp 23)), (24, a.eval (.tmp 24)), (25, a.eval (.tmp 25)), (26, a.eval (.tmp 26)), (27, a.eval (.tmp 27)), (28, a.eval (.tmp 28)), (29, a.eval (.tmp 29)), (30, a.eval (.tmp 30)), (31, a.eval (.tmp 31))] (by simp) (by simp; omega)]
    exact hQ _ _ _ _ _ _ _ _ _ _ g k c h Y l1 l2 l3 l4 l5 l6 l7
end Go.Proofs.YtmkfkjicfmllmaaDoor
