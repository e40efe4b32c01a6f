/- a pool as a plain state: what holds of it between two calls, and what each step makes of it -/
import Derived.Test.YtfbankloclhplacGreatMgA
import Derived.Test.YtfbankloclhplacGreatPoA
namespace Go.Proofs.YtfbankloclhplacGreat
structure FrP where
  blk : Nat
  text : ByteArray
  dirty : Bool
structure PS where
  most : Nat
  pages : Nat
  free : Nat
  fs : Int → Option FrP
  order : List Int
  chg : Int → Bool
  hits : Int
  misses : Int
  spills : Int
def isD (P : PS) (n : Int) : Bool := match P.fs n with | some f => f.dirty | none => false
/- how many dirty pages are held -/
def dct (P : PS) : Nat := P.order.countP (isD P)
abbrev Pgs := Int → Option ByteArray
structure PI (P : PS) (L : LS) (S : DS) (C K N : Pgs) (pk m : Nat) : Prop where
  inv : ∃ j k, Inv L S K N j ∧ j + dct P ≤ m ∧ okS S k ∧ k + dct P ≤ 4 * m + 20
  nd : P.order.Nodup
  keys : ∀ n, n ∈ P.order ↔ (P.fs n).isSome = true
  rng : ∀ n ∈ P.order, 0 ≤ n ∧ n < P.pages
  most : P.order.length ≤ P.most ∧ 8 ≤ P.most ∧ P.most ≤ 64
  pg : 1 ≤ pk ∧ pk ≤ P.pages ∧ P.pages ≤ 59000
  last : L.last.pages = pk
  cur : ∀ n : Int, 0 ≤ n → n < P.pages → ∃ t, C n = some t ∧ t.size = 1024 ∧ (∀ f, P.fs n = some f → f.text = t) ∧ (P.fs n = none → N n = some t)
  clean : ∀ n f, P.fs n = some f → f.dirty = false → N n = some f.text
  chg : ∀ n : Int, P.chg n = false → 0 ≤ n → n < P.pages → n < pk ∧ N n = K n ∧ ∀ f, P.fs n = some f → f.dirty = false
  chr : ∀ n, P.chg n = true → 0 ≤ n ∧ n < P.pages
  kd : ∀ n : Int, 0 ≤ n → n < pk → ∃ t, K n = some t ∧ t.size = 1024
theorem cnt_off {x : Int} {p : Int → Bool} (hp : p x = true) : ∀ {l : List Int}, l.Nodup → x ∈ l → l.countP (fun n => if n = x then false else p n) + 1 = l.countP p
  | a :: r, hn, hx => by
    obtain ⟨h1, h2⟩ := List.nodup_cons.1 hn
    by_cases e : a = x
    · subst e
      have : r.countP (fun n => if n = a then false else p n) = r.countP p := List.countP_congr fun y hy => by
        have : ¬ y = a := fun e => h1 (e ▸ hy)
        simp [this]
      rw [List.countP_cons, List.countP_cons, this, if_pos hp, if_neg (by simp)]
    · have hx' : x ∈ r := (List.mem_cons.1 hx).resolve_left (fun h => e h.symm)
      have := cnt_off hp h2 hx'
      rw [List.countP_cons, List.countP_cons]
      simp only [if_neg e]
      omega
theorem cnt_on {x : Int} {p : Int → Bool} : ∀ {l : List Int}, l.Nodup → l.countP (fun n => if n = x then true else p n) ≤ l.countP p + 1
  | [], _ => by simp
  | a :: r, hn => by
    obtain ⟨h1, h2⟩ := List.nodup_cons.1 hn
    by_cases e : a = x
    · subst e
      have : r.countP (fun n => if n = a then true else p n) = r.countP p := List.countP_congr fun y hy => by
        have : ¬ y = a := fun e => h1 (e ▸ hy)
        simp [this]
      rw [List.countP_cons, List.countP_cons, this]
      simp
    · have := cnt_on (x := x) (p := p) h2
      rw [List.countP_cons, List.countP_cons]
      simp only [if_neg e]
      omega
def updR (F : Int → Option FrP) (k : Int) (f : FrP) : Int → Option FrP := fun x => if x = k then some f else F x
def delR (F : Int → Option FrP) (k : Int) : Int → Option FrP := fun x => if x = k then none else F x
theorem updR_at (F : Int → Option FrP) (k : Int) (f : FrP) : updR F k f k = some f := if_pos rfl
theorem updR_ne (F : Int → Option FrP) {k x : Int} (f : FrP) (h : ¬ x = k) : updR F k f x = F x := if_neg h
theorem delR_at (F : Int → Option FrP) (k : Int) : delR F k k = none := if_pos rfl
theorem delR_ne (F : Int → Option FrP) {k x : Int} (h : ¬ x = k) : delR F k x = F x := if_neg h
theorem wth_at (F : Pgs) (n : Int) (s : ByteArray) : wth F n s n = some s := if_pos rfl
theorem wth_ne (F : Pgs) {n x : Int} (s : ByteArray) (h : ¬ x = n) : wth F n s x = F x := if_neg h
theorem PI.held {P : PS} {L : LS} {S : DS} {C K N : Pgs} {pk m : Nat} (h : PI P L S C K N pk m) {n : Int} {f : FrP} (hf : P.fs n = some f) : n ∈ P.order ∧ 0 ≤ n ∧ n < P.pages ∧ C n = some f.text ∧ f.text.size = 1024 := by
  have h1 : n ∈ P.order := (h.keys n).2 (by rw [hf]; rfl)
  have h2 := h.rng n h1
  obtain ⟨t, c1, c2, c3, c4⟩ := h.cur n h2.1 h2.2
  have := c3 f hf
  subst this
  exact ⟨h1, h2.1, h2.2, c1, c2⟩
/- the disk went down, nothing else -/
theorem PI.down {P : PS} {L : LS} {S : DS} {C K N : Pgs} {pk m : Nat} (h : PI P L S C K N pk m) : PI P L { S with down := true } C K N pk m := by
  obtain ⟨j, k, h1, h2, h3, h4⟩ := h.inv
  exact ⟨⟨j, k, h1.same rfl rfl, h2, h3, h4⟩, h.nd, h.keys, h.rng, h.most, h.pg, h.last, h.cur, h.clean, h.chg, h.chr, h.kd⟩
theorem PI.mono {P : PS} {L : LS} {S : DS} {C K N : Pgs} {pk m m' : Nat} (h : PI P L S C K N pk m) (hm : m ≤ m') : PI P L S C K N pk m' := by
  obtain ⟨j, k, h1, h2, h3, h4⟩ := h.inv
  exact ⟨⟨j, k, h1, by omega, h3, by omega⟩, h.nd, h.keys, h.rng, h.most, h.pg, h.last, h.cur, h.clean, h.chg, h.chr, h.kd⟩
/- counts alone are others -/
theorem PI.stat {P : PS} {L : LS} {S : DS} {C K N : Pgs} {pk m : Nat} (h : PI P L S C K N pk m) (a b c : Int) (fr : Nat) : PI { P with hits := a, misses := b, spills := c, free := fr } L S C K N pk m :=
  ⟨h.inv, h.nd, h.keys, h.rng, h.most, h.pg, h.last, h.cur, h.clean, h.chg, h.chr, h.kd⟩
/- the same pages in another order -/
theorem PI.perm {P : PS} {L : LS} {S : DS} {C K N : Pgs} {pk m : Nat} (h : PI P L S C K N pk m) {l : List Int} (hp : l.Perm P.order) : PI { P with order := l } L S C K N pk m := by
  have hd : dct { P with order := l } = dct P := hp.countP_eq _
  refine ⟨by rw [hd]; exact h.inv, hp.nodup_iff.2 h.nd, fun n => (hp.mem_iff).trans (h.keys n), fun n hn => h.rng n (hp.mem_iff.1 hn), by show l.length ≤ _ ∧ _; rw [hp.length_eq]; exact h.most, h.pg, h.last, h.cur, h.clean, h.chg, h.chr, h.kd⟩
/- a dirty page is in the log now -/
theorem PI.logged {P : PS} {L L' : LS} {S S' : DS} {C K N : Pgs} {pk m : Nat} (h : PI P L S C K N pk m) {x : Int} {f : FrP} (hf : P.fs x = some f) (hd : f.dirty = true) (hl : L'.last = L.last) (hI : ∀ j, Inv L S K N j → j ≤ m → Inv L' S' K (wth N x f.text) (j + 1)) (hk : ∀ k, okS S k → okS S' (k + 1)) :
    PI { P with fs := updR P.fs x { f with dirty := false } } L' S' C K (wth N x f.text) pk m := by
  obtain ⟨j, k, h1, h2, h3, h4⟩ := h.inv
  obtain ⟨g1, g2, g3, g4, g5⟩ := h.held hf
  have hc : dct { P with fs := updR P.fs x { f with dirty := false } } + 1 = dct P := by
    unfold dct
    rw [← cnt_off (x := x) (p := isD P) (by unfold isD; rw [hf]; exact hd) h.nd g1]
    congr 1
    refine List.countP_congr fun y _ => ?_
    unfold isD
    by_cases e : y = x
    · subst e; simp [updR]
    · simp [updR, e]
  refine ⟨⟨j + 1, k + 1, hI j h1 (by omega), by omega, hk k h3, by omega⟩, h.nd, fun n => ?_, h.rng, h.most, h.pg, by rw [hl]; exact h.last, fun n n0 n1 => ?_, fun n f' hf' hd' => ?_, fun n hn n0 n1 => ?_, h.chr, h.kd⟩
  · show _ ↔ (updR P.fs x _ n).isSome = true
    by_cases e : n = x
    · subst e; rw [updR_at]; exact ⟨fun _ => rfl, fun _ => g1⟩
    · rw [updR_ne _ _ e]; exact h.keys n
  · obtain ⟨t, c1, c2, c3, c4⟩ := h.cur n n0 n1
    refine ⟨t, c1, c2, ?_, ?_⟩
    · intro f' hf'
      have hf' : updR P.fs x { f with dirty := false } n = some f' := hf'
      by_cases e : n = x
      · subst e; rw [updR_at] at hf'; injection hf' with hf'; rw [← hf']; exact c3 f hf
      · rw [updR_ne _ _ e] at hf'; exact c3 f' hf'
    · intro hn
      have hn : updR P.fs x { f with dirty := false } n = none := hn
      by_cases e : n = x
      · subst e; rw [updR_at] at hn; cases hn
      · rw [updR_ne _ _ e] at hn; rw [wth_ne _ _ e]; exact c4 hn
  · have hf' : updR P.fs x { f with dirty := false } n = some f' := hf'
    by_cases e : n = x
    · subst e; rw [updR_at] at hf'; injection hf' with hf'; rw [wth_at, ← hf']
    · rw [updR_ne _ _ e] at hf'; rw [wth_ne _ _ e]; exact h.clean n f' hf' hd'
  · obtain ⟨a1, a2, a3⟩ := h.chg n hn n0 n1
    have e : ¬ n = x := fun e => by
      subst e
      have := a3 f hf
      rw [hd] at this
      cases this
    refine ⟨a1, by rw [wth_ne _ _ e]; exact a2, fun f' hf' => ?_⟩
    have hf' : updR P.fs x { f with dirty := false } n = some f' := hf'
    rw [updR_ne _ _ e] at hf'
    exact a3 f' hf'
/- a clean page goes -/
theorem PI.gone {P : PS} {L : LS} {S : DS} {C K N : Pgs} {pk m : Nat} (h : PI P L S C K N pk m) {x : Int} {r : List Int} {f : FrP} (ho : P.order = x :: r) (hf : P.fs x = some f) (hd : f.dirty = false) : PI { P with fs := delR P.fs x, order := r } L S C K N pk m := by
  obtain ⟨j, k, h1, h2, h3, h4⟩ := h.inv
  have hnd := h.nd
  rw [ho, List.nodup_cons] at hnd
  have hc : dct { P with fs := delR P.fs x, order := r } ≤ dct P := by
    unfold dct
    rw [ho, List.countP_cons]
    have : r.countP (isD { P with fs := delR P.fs x, order := r }) = r.countP (isD P) := List.countP_congr fun y hy => by
      have : ¬ y = x := fun e => hnd.1 (e ▸ hy)
      unfold isD
      simp [delR, this]
    show r.countP _ ≤ _
    rw [this]
    omega
  have hl := h.most
  rw [ho] at hl
  refine ⟨⟨j, k, h1, by omega, h3, by omega⟩, hnd.2, fun n => ?_, fun n hn => h.rng n (by rw [ho]; exact List.mem_cons_of_mem _ hn), ⟨Nat.le_trans (by simp) hl.1, hl.2⟩, h.pg, h.last, fun n n0 n1 => ?_, fun n f' hf' hd' => ?_, fun n hn n0 n1 => ?_, h.chr, h.kd⟩
  · show n ∈ r ↔ (delR P.fs x n).isSome = true
    by_cases e : n = x
    · subst e; rw [delR_at]; exact ⟨fun k => absurd k hnd.1, fun k => by cases k⟩
    · rw [delR_ne _ e, ← h.keys n, ho]
      exact ⟨fun k => List.mem_cons_of_mem _ k, fun k => (List.mem_cons.1 k).resolve_left e⟩
  · obtain ⟨t, c1, c2, c3, c4⟩ := h.cur n n0 n1
    refine ⟨t, c1, c2, ?_, ?_⟩
    · intro f' hf'
      have hf' : delR P.fs x n = some f' := hf'
      by_cases e : n = x
      · subst e; rw [delR_at] at hf'; cases hf'
      · rw [delR_ne _ e] at hf'; exact c3 f' hf'
    · intro hn
      have hn : delR P.fs x n = none := hn
      by_cases e : n = x
      · subst e; rw [← c3 f hf]; exact h.clean n f hf hd
      · rw [delR_ne _ e] at hn; exact c4 hn
  · have hf' : delR P.fs x n = some f' := hf'
    by_cases e : n = x
    · subst e; rw [delR_at] at hf'; cases hf'
    · rw [delR_ne _ e] at hf'; exact h.clean n f' hf' hd'
  · obtain ⟨a1, a2, a3⟩ := h.chg n hn n0 n1
    refine ⟨a1, a2, fun f' hf' => ?_⟩
    have hf' : delR P.fs x n = some f' := hf'
    by_cases e : n = x
    · subst e; rw [delR_at] at hf'; cases hf'
    · rw [delR_ne _ e] at hf'; exact a3 f' hf'
/- one page more is held, as the log has it -/
theorem PI.hold {P : PS} {L : LS} {S : DS} {C K N : Pgs} {pk m : Nat} (h : PI P L S C K N pk m) {n : Int} {t : ByteArray} (b : Nat) (n0 : 0 ≤ n) (n1 : n < P.pages) (hn : P.fs n = none) (ht : C n = some t) (hl : P.order.length < P.most) : PI { P with fs := updR P.fs n ⟨b, t, false⟩, order := P.order ++ [n] } L S C K N pk m := by
  obtain ⟨j, k, h1, h2, h3, h4⟩ := h.inv
  have hni : ¬ n ∈ P.order := fun k => by have := (h.keys n).1 k; rw [hn] at this; cases this
  have hN : N n = some t := by
    obtain ⟨t', c1, c2, c3, c4⟩ := h.cur n n0 n1
    rw [ht] at c1
    injection c1 with c1
    subst c1
    exact c4 hn
  have hc : dct { P with fs := updR P.fs n ⟨b, t, false⟩, order := P.order ++ [n] } = dct P := by
    unfold dct
    show (P.order ++ [n]).countP _ = _
    rw [List.countP_append]
    have e1 : P.order.countP (isD { P with fs := updR P.fs n ⟨b, t, false⟩, order := P.order ++ [n] }) = P.order.countP (isD P) := List.countP_congr fun y hy => by
      have : ¬ y = n := fun e => hni (e ▸ hy)
      unfold isD
      simp [updR, this]
    rw [e1]
    simp [isD, updR]
  refine ⟨by rw [hc]; exact ⟨j, k, h1, h2, h3, h4⟩, ?_, fun x => ?_, fun x hx => ?_, ⟨by show (P.order ++ [n]).length ≤ _; simp; omega, h.most.2⟩, h.pg, h.last, fun x x0 x1 => ?_, fun x f' hf' hd' => ?_, fun x hx x0 x1 => ?_, h.chr, h.kd⟩
  · show (P.order ++ [n]).Nodup
    rw [List.nodup_append]
    exact ⟨h.nd, by simp, fun a ha b hb e => by simp at hb; subst hb; subst e; exact hni ha⟩
  · show x ∈ P.order ++ [n] ↔ (updR P.fs n _ x).isSome = true
    by_cases e : x = n
    · subst e; rw [updR_at]; simp
    · rw [updR_ne _ _ e, ← h.keys x]; simp [e]
  · rcases List.mem_append.1 hx with hx | hx
    · exact h.rng x hx
    · obtain rfl := List.mem_singleton.1 hx
      exact ⟨n0, n1⟩
  · obtain ⟨t', c1, c2, c3, c4⟩ := h.cur x x0 x1
    refine ⟨t', c1, c2, ?_, ?_⟩
    · intro f' hf'
      have hf' : updR P.fs n ⟨b, t, false⟩ x = some f' := hf'
      by_cases e : x = n
      · subst e; rw [updR_at] at hf'; injection hf' with hf'; rw [← hf']; rw [ht] at c1; injection c1
      · rw [updR_ne _ _ e] at hf'; exact c3 f' hf'
    · intro hn'
      have hn' : updR P.fs n ⟨b, t, false⟩ x = none := hn'
      by_cases e : x = n
      · subst e; rw [updR_at] at hn'; cases hn'
      · rw [updR_ne _ _ e] at hn'; exact c4 hn'
  · have hf' : updR P.fs n ⟨b, t, false⟩ x = some f' := hf'
    by_cases e : x = n
    · subst e; rw [updR_at] at hf'; injection hf' with hf'; rw [← hf']; exact hN
    · rw [updR_ne _ _ e] at hf'; exact h.clean x f' hf' hd'
  · obtain ⟨a1, a2, a3⟩ := h.chg x hx x0 x1
    refine ⟨a1, a2, fun f' hf' => ?_⟩
    have hf' : updR P.fs n ⟨b, t, false⟩ x = some f' := hf'
    by_cases e : x = n
    · subst e; rw [updR_at] at hf'; injection hf' with hf'; rw [← hf']
    · rw [updR_ne _ _ e] at hf'; exact a3 f' hf'
/- a page that is held has other bytes now -/
def chP (P : PS) (n : Int) (b : Nat) (s : ByteArray) : PS := { P with fs := updR P.fs n ⟨b, s, true⟩, chg := updU P.chg n }
theorem PI.change {P : PS} {L : LS} {S : DS} {C K N : Pgs} {pk m : Nat} (h : PI P L S C K N pk m) {n : Int} {f : FrP} {s : ByteArray} (hf : P.fs n = some f) (hs : s.size = 1024) : PI (chP P n f.blk s) L S (wth C n s) K N pk (m + 1) := by
  obtain ⟨j, k, h1, h2, h3, h4⟩ := h.inv
  obtain ⟨g1, g2, g3, g4, g5⟩ := h.held hf
  have hc : dct (chP P n f.blk s) ≤ dct P + 1 := by
    unfold dct
    refine Nat.le_trans (Nat.le_of_eq ?_) (cnt_on (x := n) (p := isD P) h.nd)
    show P.order.countP _ = _
    refine List.countP_congr fun y _ => ?_
    unfold isD chP
    by_cases e : y = n
    · subst e; simp [updR]
    · simp [updR, e]
  have up : ∀ {x : Int}, (chP P n f.blk s).fs x = if x = n then some ⟨f.blk, s, true⟩ else P.fs x := rfl
  refine ⟨⟨j, k, h1, by omega, h3, by omega⟩, h.nd, fun x => ?_, h.rng, h.most, h.pg, h.last, fun x x0 x1 => ?_, fun x f' hf' hd' => ?_, fun x hx x0 x1 => ?_, fun x hx => ?_, h.kd⟩
  · rw [up]
    by_cases e : x = n
    · subst e; rw [if_pos rfl]; exact ⟨fun _ => rfl, fun _ => g1⟩
    · rw [if_neg e]; exact h.keys x
  · by_cases e : x = n
    · subst e
      refine ⟨s, wth_at _ _ _, hs, fun f' hf' => ?_, fun hn => ?_⟩
      · rw [up, if_pos rfl] at hf'; injection hf' with hf'; rw [← hf']
      · rw [up, if_pos rfl] at hn; cases hn
    · obtain ⟨t', c1, c2, c3, c4⟩ := h.cur x x0 x1
      exact ⟨t', by rw [wth_ne _ _ e]; exact c1, c2, fun f' hf' => by rw [up, if_neg e] at hf'; exact c3 f' hf', fun hn => by rw [up, if_neg e] at hn; exact c4 hn⟩
  · rw [up] at hf'
    by_cases e : x = n
    · rw [if_pos e] at hf'; injection hf' with hf'; rw [← hf'] at hd'; cases hd'
    · rw [if_neg e] at hf'; exact h.clean x f' hf' hd'
  · have hx : (if x = n then true else P.chg x) = false := hx
    by_cases e : x = n
    · rw [if_pos e] at hx; cases hx
    · rw [if_neg e] at hx
      obtain ⟨a1, a2, a3⟩ := h.chg x hx x0 x1
      exact ⟨a1, a2, fun f' hf' => by rw [up, if_neg e] at hf'; exact a3 f' hf'⟩
  · have hx : (if x = n then true else P.chg x) = true := hx
    by_cases e : x = n
    · subst e; exact ⟨g2, g3⟩
    · rw [if_neg e] at hx; exact h.chr x hx
/- one page more is made -/
theorem PI.grow {P : PS} {L : LS} {S : DS} {C K N : Pgs} {pk m : Nat} (h : PI P L S C K N pk m) {s : ByteArray} (b : Nat) (hs : s.size = 1024) (hl : P.order.length < P.most) (hp : P.pages < 59000) :
    PI { P with pages := P.pages + 1, fs := updR P.fs P.pages ⟨b, s, true⟩, order := P.order ++ [(P.pages : Int)], chg := updU P.chg P.pages } L S (wth C P.pages s) K N pk (m + 1) := by
  obtain ⟨j, k, h1, h2, h3, h4⟩ := h.inv
  have hni : ¬ (P.pages : Int) ∈ P.order := fun k => by have := (h.rng _ k).2; omega
  have hpg := h.pg
  obtain ⟨Q, hQ⟩ : ∃ Q : PS, Q = { P with pages := P.pages + 1, fs := updR P.fs P.pages ⟨b, s, true⟩, order := P.order ++ [(P.pages : Int)], chg := updU P.chg P.pages } := ⟨_, rfl⟩
  have q1 : Q.pages = P.pages + 1 := by rw [hQ]
  have q2 : ∀ x, Q.fs x = if x = (P.pages : Int) then some ⟨b, s, true⟩ else P.fs x := fun x => by rw [hQ]; rfl
  have q3 : Q.order = P.order ++ [(P.pages : Int)] := by rw [hQ]
  have q4 : ∀ x, Q.chg x = if x = (P.pages : Int) then true else P.chg x := fun x => by rw [hQ]; rfl
  have q5 : Q.most = P.most := by rw [hQ]
  rw [← hQ]
  clear hQ
  have hc : dct Q ≤ dct P + 1 := by
    unfold dct
    rw [q3, List.countP_append]
    have e1 : P.order.countP (isD Q) = P.order.countP (isD P) := List.countP_congr fun y hy => by
      have : ¬ y = (P.pages : Int) := fun e => hni (e ▸ hy)
      unfold isD
      rw [q2, if_neg this]
    rw [e1]
    have := List.countP_le_length (l := [(P.pages : Int)]) (p := isD Q)
    simp at this ⊢
    omega
  refine ⟨⟨j, k, h1, by omega, h3, by omega⟩, ?_, fun x => ?_, fun x hx => ?_, ⟨by rw [q3, q5]; simp; omega, by rw [q5]; exact h.most.2⟩, ⟨hpg.1, by omega, by omega⟩, h.last, fun x x0 x1 => ?_, fun x f' hf' hd' => ?_, fun x hx x0 x1 => ?_, fun x hx => ?_, h.kd⟩
  · rw [q3, List.nodup_append]
    exact ⟨h.nd, by simp, fun a ha b hb e => by simp at hb; subst hb; subst e; exact hni ha⟩
  · rw [q2, q3]
    by_cases e : x = (P.pages : Int)
    · rw [if_pos e]; simp [e]
    · rw [if_neg e, ← h.keys x]; simp [e]
  · rw [q3] at hx
    rw [q1]
    rcases List.mem_append.1 hx with hx | hx
    · have := h.rng x hx; omega
    · obtain rfl := List.mem_singleton.1 hx
      omega
  · by_cases e : x = (P.pages : Int)
    · subst e
      refine ⟨s, wth_at _ _ _, hs, fun f' hf' => ?_, fun hn => ?_⟩
      · rw [q2, if_pos rfl] at hf'; injection hf' with hf'; rw [← hf']
      · rw [q2, if_pos rfl] at hn; cases hn
    · obtain ⟨t', c1, c2, c3, c4⟩ := h.cur x x0 (by omega)
      exact ⟨t', by rw [wth_ne _ _ e]; exact c1, c2, fun f' hf' => by rw [q2, if_neg e] at hf'; exact c3 f' hf', fun hn => by rw [q2, if_neg e] at hn; exact c4 hn⟩
  · rw [q2] at hf'
    by_cases e : x = (P.pages : Int)
    · rw [if_pos e] at hf'; injection hf' with hf'; rw [← hf'] at hd'; cases hd'
    · rw [if_neg e] at hf'; exact h.clean x f' hf' hd'
  · rw [q4] at hx
    by_cases e : x = (P.pages : Int)
    · rw [if_pos e] at hx; cases hx
    · rw [if_neg e] at hx
      obtain ⟨a1, a2, a3⟩ := h.chg x hx x0 (by omega)
      exact ⟨a1, a2, fun f' hf' => by rw [q2, if_neg e] at hf'; exact a3 f' hf'⟩
  · rw [q4] at hx
    by_cases e : x = (P.pages : Int)
    · subst e; omega
    · rw [if_neg e] at hx; have := h.chr x hx; omega
/- all that was written is committed: no page is dirty, and the log tells all -/
theorem PI.commit {P : PS} {L L' : LS} {S S' : DS} {C K N N' : Pgs} {pk m j' k' : Nat} (h : PI P L S C K N pk m) (fs' : Int → Option FrP) (hfs : ∀ n, (fs' n).isSome = (P.fs n).isSome) (hft : ∀ n f, fs' n = some f → f.dirty = false ∧ ∃ g, P.fs n = some g ∧ g.text = f.text) (hN : ∀ n : Int, 0 ≤ n → n < P.pages → N' n = C n)
    (hI : Inv L' S' N' N' j') (hj : j' ≤ m + 1) (hk : okS S' k') (hk' : k' ≤ 4 * m + 24) (hl : L'.last.pages = P.pages) :
    PI { P with fs := fs', chg := fun _ => false } L' S' C N' N' P.pages (m + 1) := by
  have hc : dct { P with fs := fs', chg := fun _ => false } = 0 := by
    unfold dct
    rw [List.countP_eq_zero]
    intro n _
    unfold isD
    show ¬ (match fs' n with | some f => f.dirty | none => false) = true
    cases hf : fs' n with
    | none => simp
    | some f => simp [(hft n f hf).1]
  have hpg := h.pg
  refine ⟨⟨j', k', hI, by omega, hk, by omega⟩, h.nd, fun n => by show _ ↔ (fs' n).isSome = true; rw [hfs]; exact h.keys n, h.rng, h.most, ⟨by show 1 ≤ P.pages; omega, Nat.le_refl _, hpg.2.2⟩, hl, fun n n0 n1 => ?_, fun n f hf _ => ?_, fun n _ n0 n1 => ⟨n1, rfl, fun f hf => (hft n f hf).1⟩, (fun n hn => by cases hn), fun n n0 n1 => ?_⟩
  · obtain ⟨t, c1, c2, c3, c4⟩ := h.cur n n0 n1
    refine ⟨t, c1, c2, fun f hf => ?_, fun _ => by rw [hN n n0 n1]; exact c1⟩
    obtain ⟨_, g, hg, e⟩ := hft n f hf
    rw [← e]
    exact c3 g hg
  · obtain ⟨_, g, hg, e⟩ := hft n f hf
    obtain ⟨g1, g2, g3, g4, g5⟩ := h.held hg
    rw [hN n g2 g3, g4, e]
  · obtain ⟨t, c1, c2, c3, c4⟩ := h.cur n n0 n1
    exact ⟨t, by rw [hN n n0 n1]; exact c1, c2⟩
/- what was written is forgotten -/
theorem PI.back {P : PS} {L : LS} {S : DS} {C K N : Pgs} {pk m : Nat} (h : PI P L S C K N pk m) :
    PI { P with fs := fun n => if P.chg n = true then none else P.fs n, order := P.order.filter (fun n => !P.chg n), chg := fun _ => false, pages := pk } (bkL L) S K K K pk m := by
  obtain ⟨j, k, h1, h2, h3, h4⟩ := h.inv
  obtain ⟨Q, hQ⟩ : ∃ Q : PS, Q = { P with fs := fun n => if P.chg n = true then none else P.fs n, order := P.order.filter (fun n => !P.chg n), chg := fun _ => false, pages := pk } := ⟨_, rfl⟩
  have q1 : Q.pages = pk := by rw [hQ]
  have q2 : ∀ x, Q.fs x = if P.chg x = true then none else P.fs x := fun x => by rw [hQ]
  have q3 : Q.order = P.order.filter (fun n => !P.chg n) := by rw [hQ]
  have q4 : ∀ x, Q.chg x = false := fun x => by rw [hQ]
  have q5 : Q.most = P.most := by rw [hQ]
  rw [← hQ]
  clear hQ
  have hpg := h.pg
  have mem : ∀ n, n ∈ Q.order ↔ n ∈ P.order ∧ P.chg n = false := fun n => by rw [q3, List.mem_filter]; simp
  have old : ∀ n f, Q.fs n = some f → P.chg n = false ∧ P.fs n = some f := fun n f hf => by
    rw [q2] at hf
    cases hc : P.chg n with
    | true => rw [if_pos hc] at hf; cases hf
    | false => rw [if_neg (by rw [hc]; decide)] at hf; exact ⟨rfl, hf⟩
  have cln : ∀ n f, Q.fs n = some f → f.dirty = false ∧ K n = some f.text := fun n f hf => by
    obtain ⟨a, b⟩ := old n f hf
    obtain ⟨g1, g2, g3, g4, g5⟩ := h.held b
    obtain ⟨a1, a2, a3⟩ := h.chg n a g2 g3
    exact ⟨a3 f b, by rw [← a2]; exact h.clean n f b (a3 f b)⟩
  have hc : dct Q = 0 := by
    unfold dct
    rw [List.countP_eq_zero]
    intro n _
    unfold isD
    cases hf : Q.fs n with
    | none => simp
    | some f => simp [(cln n f hf).1]
  refine ⟨⟨j, k, bk_out h1, by omega, h3, by omega⟩, by rw [q3]; exact h.nd.filter _, fun n => ?_, fun n hn => ?_, ⟨by rw [q3, q5]; exact Nat.le_trans (List.length_filter_le ..) h.most.1, by rw [q5]; exact h.most.2⟩, ⟨hpg.1, by omega, by omega⟩, h.last, fun n n0 n1 => ?_, fun n f hf _ => (cln n f hf).2, fun n _ n0 n1 => ⟨by omega, rfl, fun f hf => (cln n f hf).1⟩, (fun n hn => by rw [q4] at hn; cases hn), h.kd⟩
  · rw [mem, q2, h.keys n]
    cases hc : P.chg n with
    | true => simp
    | false => simp
  · obtain ⟨a, b⟩ := (mem n).1 hn
    have r := h.rng n a
    obtain ⟨a1, a2, a3⟩ := h.chg n b r.1 r.2
    omega
  · obtain ⟨t, k1, k2⟩ := h.kd n n0 (by omega)
    exact ⟨t, k1, k2, fun f hf => by have := (cln n f hf).2; rw [k1] at this; injection this with this; exact this.symm, fun _ => k1⟩
end Go.Proofs.YtfbankloclhplacGreat
