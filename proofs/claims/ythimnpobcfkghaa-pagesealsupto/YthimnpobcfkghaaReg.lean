/- A region whose order is open, by an invariant: each operation alone, whatever came before it, keeps the invariant; so whatever the order is, it holds behind the region. -/
import Derived.WalkKit
import Derived.WalkSpells
import Derived.WalkLawsBesides
namespace Go.Proofs.Ythimnpobcfkghaa
open Go.RowKit

section
variable {P : Program} {ops : Array Oper} {Q : Exit → Act → World → Prop}

def upd (L : Nat → Bool) (i : Nat) : Nat → Bool := fun j => j == i || L j
theorem upd_same (L : Nat → Bool) (i : Nat) : upd L i i = true := by simp [upd]
theorem upd_ne (L : Nat → Bool) {i j : Nat} (h : ¬ j = i) : upd L i j = L j := by simp [upd, h]

theorem getD_listed {l : Array Bool} {i : Nat} (h : i < l.size) (j : Nat) : (l.setIfInBounds i true).getD j false = upd (fun j => l.getD j false) i j := by
  by_cases e : j = i
  · subst e; simp [upd, h]
  · rw [upd_ne _ e]
    simp only [Array.getD_eq_getD_getElem?, Array.getElem?_setIfInBounds_ne (Ne.symm e)]

theorem count_listed {l : Array Bool} {i : Nat} (h : l.getD i true = false) : (l.setIfInBounds i true).toList.count false + 1 = l.toList.count false := by
  have hi : i < l.size := by
    rcases Nat.lt_or_ge i l.size with h' | h'
    · exact h'
    · simp [Array.getD_eq_getD_getElem?, Array.getElem?_eq_none h'] at h
  have hv : l.toList[i]'(by simpa using hi) = false := by
    simpa [Array.getD_eq_getD_getElem?, hi] using h
  have e : (l.setIfInBounds i true).toList = l.toList.set i true := by simp [Array.setIfInBounds, hi]
  rw [e, List.count_set (h := by simpa using hi)]
  have hpos : 0 < l.toList.count false := List.count_pos_iff.2 (by rw [← hv]; exact List.getElem_mem _)
  rw [hv, if_pos (by rfl), if_neg (by decide)]
  omega

theorem wpAny_inv (I : (Nat → Bool) → Act → World → Prop)
    (hback : ∀ i o, ops[i]? = some o → ∀ e ∈ o.after, Region.binds .any e = true → e.on < i)
    (hstep : ∀ L a X, I L a X → ∀ i o, ops[i]? = some o → L i = false → (∀ e ∈ o.after, Region.binds .any e = true → L e.on = true) → wpOp P ops Q i (fun a' X' => I (upd L i) a' X') a X)
    (hdone : ∀ L a X, I L a X → (∀ i, i < ops.size → L i = true) → Q .normal a X) :
    ∀ (fuel : Nat) (l : Array Bool) (a : Act) (X : World), l.size = ops.size → l.toList.count false ≤ fuel → I (fun j => l.getD j false) a X → wpAny P .any ops Q fuel l a X := by
  have hall : ∀ (l : Array Bool), l.size = ops.size → Region.ready .any ops l = [] → ∀ i, i < ops.size → l.getD i false = true := by
    intro l hl hr i
    induction i using Nat.strongRecOn with
    | ind i ih =>
      intro hi
      cases hv : l.getD i false with
      | true => rfl
      | false =>
        have hm : i ∈ Region.ready .any ops l := mem_ready.2 ⟨by
          have : i < l.size := by omega
          simpa [Array.getD_eq_getD_getElem?, this] using hv, ops[i], by simp [hi], fun e he hb => by
          have := hback i ops[i] (by simp [hi]) e he hb
          exact ih _ this (by omega)⟩
        rw [hr] at hm
        cases hm
  intro fuel
  induction fuel with
  | zero =>
    intro l a X hl hc hI
    have hr : Region.ready .any ops l = [] := by
      apply List.eq_nil_iff_forall_not_mem.2
      intro i hi
      have := count_listed (mem_ready.1 hi).1
      omega
    exact ⟨hr, hdone _ a X hI (hall l hl hr)⟩
  | succ fuel ih =>
    intro l a X hl hc hI
    refine ⟨fun hr => hdone _ a X hI (hall l hl hr), fun i hi => ?_⟩
    obtain ⟨h0, o, ho, hd⟩ := mem_ready.1 hi
    have hil : i < l.size := by
      rcases Nat.lt_or_ge i l.size with h' | h'
      · exact h'
      · simp [Array.getD_eq_getD_getElem?, Array.getElem?_eq_none h'] at h0
    have h0' : l.getD i false = false := by simpa [Array.getD_eq_getD_getElem?, hil] using h0
    refine wpOp_mono (fun a' X' h => ih _ a' X' (by simpa using hl) ?_ ?_) (hstep _ a X hI i o ho h0' hd)
    · have := count_listed h0; omega
    · have e : (fun j => (l.setIfInBounds i true).getD j false) = upd (fun j => l.getD j false) i := funext (getD_listed hil)
      rw [e]; exact h

theorem wp_region_inv {id : Nat} {a : Act} {w : World} (hm : P.follows .mixedOrders = true) (I : Act → (Nat → Bool) → Act → World → Prop)
    (hback : ∀ i o, ops[i]? = some o → ∀ e ∈ o.after, Region.binds .any e = true → e.on < i)
    (h0 : I a (fun _ => false) a w.drew)
    (hstep : ∀ L b X, I a L b X → ∀ i o, ops[i]? = some o → L i = false → (∀ e ∈ o.after, Region.binds .any e = true → L e.on = true) → wpOp P ops Q i (fun a' X' => I a (upd L i) a' X') b X)
    (hdone : ∀ L b X, I a L b X → (∀ i, i < ops.size → L i = true) → Q .normal b X) : (Code.region id ops true).wp P Q a w := by
  refine wp_region_any hm (wpAny_inv (I a) hback hstep hdone ops.size _ a _ (by simp) (by simp) ?_)
  have e : (fun j => (Array.replicate ops.size false).getD j false) = fun _ => false := by
    funext j
    simp only [Array.getD_eq_getD_getElem?, Array.getElem?_replicate]
    split <;> rfl
  rw [e]
  exact h0

def backB (ops : Array Oper) : Bool := (List.range ops.size).all fun i => (ops.getD i default).after.all fun e => !Region.binds .any e || decide (e.on < i)
theorem backB_spec (h : backB ops = true) : ∀ i o, ops[i]? = some o → ∀ e ∈ o.after, Region.binds .any e = true → e.on < i := by
  intro i o ho e he hb
  have hi : i < ops.size := (Array.getElem?_eq_some_iff.1 ho).1
  have h1 := List.all_eq_true.1 h i (by simpa using hi)
  have eo : ops.getD i default = o := by simp [Array.getD_eq_getD_getElem?, ho]
  rw [eo] at h1
  have h2 := Array.all_eq_true_iff_forall_mem.1 h1 e he
  simpa [hb] using h2
def depB (f : Array Edge) (js : List Nat) : Bool := js.all fun j => f.any fun e => Region.binds .any e && e.on == j
theorem depB_spec {f : Array Edge} {js : List Nat} (h : depB f js = true) {L : Nat → Bool} (hd : ∀ e ∈ f, Region.binds .any e = true → L e.on = true) : ∀ j ∈ js, L j = true := by
  intro j hj
  obtain ⟨e, he, hb⟩ := Array.any_eq_true'.1 (List.all_eq_true.1 h j hj)
  simp only [Bool.and_eq_true, beq_iff_eq] at hb
  rw [← hb.2]
  exact hd e he hb.1

/- one operation that is not guarded -/
theorem wpOp_value {i : Nat} {o : Oper} {K : Act → World → Prop} {a : Act} {X X' : World} {v : Value} (ho : ops[i]? = some o) (hg : o.guard = none) (hr : (execOp a.eval o).run P X = .ok (.value v) X') (h : K (a.put o.dst v) X') : wpOp P ops Q i K a X := by
  unfold wpOp
  simp only [ho, Region.wanted, hg, if_true, Oper.wp, hr, Oper.upon]
  exact .inl h
theorem wpOp_skip {i : Nat} {o : Oper} {K : Act → World → Prop} {a : Act} {X X' : World} (ho : ops[i]? = some o) (hg : o.guard = none) (hr : (execOp a.eval o).run P X = .ok .skip X') (h : K (a.put o.dst undef) X') : wpOp P ops Q i K a X := by
  unfold wpOp
  simp only [ho, Region.wanted, hg, if_true, Oper.wp, hr, Oper.upon]
  exact .inl h
theorem wpOp_call {i : Nat} {o : Oper} {K : Act → World → Prop} {a : Act} {X X' : World} {f : FuncId} {args : Array Value} {R : Value → World → Prop} (ho : ops[i]? = some o) (hg : o.guard = none) (hr : (execOp a.eval o).run P X = .ok (.enter f args) X')
    (hc : Calls P f args X' fun e w' => ∃ v, e = .returned v ∧ R v w') (h : ∀ v w', R v w' → K (a.put o.dst v) w') : wpOp P ops Q i K a X := by
  unfold wpOp
  simp only [ho, Region.wanted, hg, if_true, Oper.wp, hr, Oper.upon]
  refine .inl (hc.mono fun e w' he => ?_)
  obtain ⟨v, rfl, hR⟩ := he
  exact h v w' hR
end

/- The frame outside of some slots is as it was. -/
def Fr (T : List Nat) (a b : Act) : Prop := b.defers = a.defers ∧ b.tmps.size = a.tmps.size ∧ ∀ i, ¬ i ∈ T → b.tmps[i]? = a.tmps[i]?
theorem Fr.refl (T : List Nat) (a : Act) : Fr T a a := ⟨rfl, rfl, fun _ _ => rfl⟩
theorem Fr.put {T : List Nat} {a b : Act} (h : Fr T a b) {j : Nat} (hj : j ∈ T) (v : Value) : Fr T a (b.put (some j) v) := by
  refine ⟨h.1, by simpa [Act.put] using h.2.1, fun i hi => ?_⟩
  have : ¬ j = i := fun e => hi (e ▸ hj)
  simp only [Act.put, Array.getElem?_setIfInBounds_ne this]
  exact h.2.2 i hi
theorem Fr.eval {T : List Nat} {a b : Act} (h : Fr T a b) {i : Nat} (hi : ¬ i ∈ T) : b.eval (.tmp i) = a.eval (.tmp i) := by
  simp only [Act.eval, Array.getD_eq_getD_getElem?, h.2.2 i hi]
theorem eval_put_same {b : Act} {j : Nat} (h : j < b.tmps.size) (v : Value) : (b.put (some j) v).eval (.tmp j) = v := by
  simp [Act.put, Act.eval, h]
theorem eval_put_ne {b : Act} {i j : Nat} (h : ¬ j = i) (v : Value) : (b.put (some j) v).eval (.tmp i) = b.eval (.tmp i) := by
  simp only [Act.put, Act.eval, Array.getD_eq_getD_getElem?, Array.getElem?_setIfInBounds_ne h]
theorem put_none (b : Act) (v : Value) : b.put none v = b := rfl

def sets : List (Nat × Value) → Array Value → Array Value
  | [], t => t
  | (i, v) :: l, t => sets l (t.setIfInBounds i v)
theorem sets_eq {t : Array Value} : ∀ (l : List (Nat × Value)) (u : Array Value), u.size = t.size → (∀ p ∈ l, t[p.1]? = some p.2) → (∀ i, ¬ i ∈ l.map (·.1) → u[i]? = t[i]?) → sets l u = t
  | [], u, hs, _, h => Array.ext_getElem? fun i => h i (by simp)
  | (i, v) :: l, u, hs, hp, h => by
    refine sets_eq l _ (by simpa using hs) (fun p hpl => hp p (by simp [hpl])) fun j hj => ?_
    have hv := hp (i, v) (by simp)
    by_cases e : i = j
    · subst e
      have hi : i < t.size := by
        rcases Nat.lt_or_ge i t.size with h' | h'
        · exact h'
        · rw [Array.getElem?_eq_none h'] at hv; cases hv
      rw [Array.getElem?_setIfInBounds_self_of_lt (by omega)]
      exact hv.symm
    · rw [Array.getElem?_setIfInBounds_ne e]
      exact h j (by simp only [List.map_cons, List.mem_cons, not_or]; exact ⟨Ne.symm e, hj⟩)
theorem get_of_eval {b : Act} {i : Nat} {v : Value} (hi : i < b.tmps.size) (h : b.eval (.tmp i) = v) : b.tmps[i]? = some v := by
  simp only [Act.eval, Array.getD_eq_getD_getElem?, Array.getElem?_eq_getElem hi, Option.getD_some] at h
  rw [Array.getElem?_eq_getElem hi, h]
theorem Fr.eq {T : List Nat} {a b : Act} (h : Fr T a b) (l : List (Nat × Value)) (hT : ∀ i, i ∈ T → i ∈ l.map (·.1)) (hp : ∀ p ∈ l, p.1 < b.tmps.size ∧ b.eval (.tmp p.1) = p.2) : b = ⟨sets l a.tmps, a.defers⟩ := by
  have e := sets_eq (t := b.tmps) l a.tmps h.2.1.symm (fun p hpl => get_of_eval (hp p hpl).1 (hp p hpl).2) (fun i hi => (h.2.2 i (fun hT' => hi (hT i hT'))).symm)
  rw [e, ← h.1]
end Go.Proofs.Ythimnpobcfkghaa
