/- package pool: a pool in memory; what stays while one block of it, or its log, is written -/
import Derived.Test.YtfbankloclhplacGreatPoP
namespace Go.Proofs.YtfbankloclhplacGreat
open Go.RowKit Go.Lib Go.Maps
theorem PL.small {X : World} {B D G bp bf n k : Nat} {L : LS} {S : DS} (h : PL X B D G bp bf n L S) (hp : ∀ x, (L.pl x).isSome = true → 0 ≤ x ∧ x < k) (hf : ∀ x, (L.fh x).isSome = true → 0 ≤ x ∧ x < k) : PL X B D G bp bf k L S :=
  ⟨h.blk, h.low, h.dif, h.mp.small hp, h.mf.small hf, h.dsk⟩
/- the blocks of a pool: its log, the log's maps, the frames, the set of changed pages; its order -/
structure Bk where
  G : Nat
  bp : Nat
  bf : Nat
  bF : Nat
  bC : Nat
  vo : Value
def Bk.M (b : Bk) : List Nat := [b.bp, b.bf, b.bF, b.bC]
def poolC (b : Bk) (P : PS) : Array Value := #[(.pointer (some ⟨b.G, 0, none⟩)), .int .i64 P.most, .int .i64 P.pages, .int .i64 P.free, .map (some b.bF), b.vo, .map (some b.bC), .int .i64 P.hits, .int .i64 P.misses, .int .i64 P.spills]
def frC (f : FrP) : Array Value := #[.string f.text, .int .i64 0, .bool f.dirty]
structure PP (X : World) (B D Gp : Nat) (b : Bk) (P : PS) (L : LS) (S : DS) : Prop where
  blk : X.heap[Gp]? = some (.cells (poolC b P) 165 (0, 0))
  log : PL X B D b.G b.bp b.bf 60000 L S
  fmap : MF X b.bF 65 (fun n => (P.fs n).map (·.blk))
  chm : MU X b.bC 60000 P.chg
  frs : ∀ n f, P.fs n = some f → X.heap[f.blk]? = some (.cells (frC f) 177 (0, 0)) ∧ B ≤ f.blk
  inj : ∀ n n' f f', P.fs n = some f → P.fs n' = some f' → f.blk = f'.blk → n = n'
  ord : X.ownsRow B 3 1 b.vo P.order.length (P.order.map (Value.int .i64))
  low : B ≤ Gp ∧ B ≤ b.bF ∧ B ≤ b.bC
  dif : ¬ b.bF = b.bC ∧ ¬ b.bF = b.bp ∧ ¬ b.bF = b.bf ∧ ¬ b.bC = b.bp ∧ ¬ b.bC = b.bf
def tyQ (t : TypeId) : Bool := tyP t || decide (t = 132) || decide (t = 165) || decide (t = 177) || decide (t = 3)
/- below B, and all blocks of other types that are not the maps M, as they were; M' are they, or new -/
structure BelP (M M' : List Nat) (B : Nat) (X Y : World) : Prop extends Below B X Y where
  far : ∀ b, b < X.heap.size → farT tyQ X b → ¬ b ∈ M → Y.heap[b]? = X.heap[b]?
  maps : ∀ b ∈ M', b ∈ M ∨ X.heap.size ≤ b
theorem BelP.refl (M : List Nat) (B : Nat) (X : World) : BelP M M B X X := ⟨Below.refl _ _, fun _ _ _ _ => rfl, fun _ h => .inl h⟩
theorem BelP.trans {M M' M'' : List Nat} {B : Nat} {X Y Z : World} (h : BelP M M' B X Y) (k : BelP M' M'' B Y Z) : BelP M M'' B X Z :=
  ⟨h.toBelow.trans k.toBelow, fun b hb hf hm => by
    have e := h.far b hb hf hm
    have hm' : ¬ b ∈ M' := fun hb' => (h.maps b hb').elim hm (fun k => by omega)
    exact (k.far b (Nat.lt_of_lt_of_le hb h.size) (hf.of e) hm').trans e, fun b hb => (k.maps b hb).elim (fun h1 => h.maps b h1) (fun h1 => .inr (Nat.le_trans h.size h1))⟩
theorem farQ {X : World} {b : Nat} (h : farT tyQ X b) : farT tyP X b := fun cur e fz he => by
  have := h cur e fz he
  unfold tyQ at this
  simp only [Bool.or_eq_false_iff] at this
  exact this.1.1.1.1
theorem nfar {X : World} {b : Nat} {cs : Array Value} {t : TypeId} (h : X.heap[b]? = some (.cells cs t (0, 0))) (ht : tyQ t = true) : ¬ farT tyQ X b := fun hf => by
  have := hf cs t (0, 0) h
  rw [ht] at this
  cases this
theorem PP.lt {X : World} {B D Gp : Nat} {b : Bk} {P : PS} {L : LS} {S : DS} (h : PP X B D Gp b P L S) : Gp < X.heap.size := (Array.getElem?_eq_some_iff.1 h.blk).1
theorem PP.farG {X : World} {B D Gp : Nat} {b : Bk} {P : PS} {L : LS} {S : DS} (h : PP X B D Gp b P L S) : farT tyP X Gp := far_of h.blk (by decide)
theorem PP.cells {X : World} {B D Gp : Nat} {b : Bk} {P : PS} {L : LS} {S : DS} (h : PP X B D Gp b P L S) :
    X.cell? ⟨Gp, 0, none⟩ = some (.pointer (some ⟨b.G, 0, none⟩)) ∧ X.cell? ⟨Gp, 1, none⟩ = some (.int .i64 P.most) ∧ X.cell? ⟨Gp, 2, none⟩ = some (.int .i64 P.pages) ∧ X.cell? ⟨Gp, 3, none⟩ = some (.int .i64 P.free) ∧ X.cell? ⟨Gp, 4, none⟩ = some (.map (some b.bF)) ∧ X.cell? ⟨Gp, 5, none⟩ = some b.vo ∧ X.cell? ⟨Gp, 6, none⟩ = some (.map (some b.bC)) ∧ X.cell? ⟨Gp, 7, none⟩ = some (.int .i64 P.hits) ∧ X.cell? ⟨Gp, 8, none⟩ = some (.int .i64 P.misses) ∧ X.cell? ⟨Gp, 9, none⟩ = some (.int .i64 P.spills) := by
  refine ⟨?_, ?_, ?_, ?_, ?_, ?_, ?_, ?_, ?_, ?_⟩ <;> simp [World.cell?, h.blk, poolC]
theorem PP.unfrozen {X : World} {B D Gp : Nat} {b : Bk} {P : PS} {L : LS} {S : DS} (h : PP X B D Gp b P L S) (k : Nat) : X.frozen? ⟨Gp, k, none⟩ = false := by simp [World.frozen?, h.blk]
theorem PP.fcells {X : World} {B D Gp : Nat} {b : Bk} {P : PS} {L : LS} {S : DS} (h : PP X B D Gp b P L S) {n : Int} {f : FrP} (hf : P.fs n = some f) :
    X.cell? ⟨f.blk, 0, none⟩ = some (.string f.text) ∧ X.cell? ⟨f.blk, 1, none⟩ = some (.int .i64 0) ∧ X.cell? ⟨f.blk, 2, none⟩ = some (.bool f.dirty) ∧ X.frozen? ⟨f.blk, 0, none⟩ = false ∧ X.frozen? ⟨f.blk, 2, none⟩ = false ∧ f.blk < X.heap.size := by
  have hb := (h.frs n f hf).1
  refine ⟨?_, ?_, ?_, ?_, ?_, (Array.getElem?_eq_some_iff.1 hb).1⟩
  · simp [World.cell?, hb, frC]
  · simp [World.cell?, hb, frC]
  · simp [World.cell?, hb, frC]
  · simp [World.frozen?, hb]
  · simp [World.frozen?, hb]
/- the blocks of the order's row -/
theorem PP.rowblk {X : World} {B D Gp : Nat} {b : Bk} {P : PS} {L : LS} {S : DS} (h : PP X B D Gp b P L S) {g : Nat} (hg : b.vo.ownBlock = some g) : (∃ cur, X.heap[g]? = some (.cells cur 3 (0, 0))) ∧ B ≤ g ∧ g < X.heap.size := by
  have hl := World.ownsRow.lt h.ord g hg
  refine ⟨?_, hl⟩
  rcases h.ord.2 with ⟨e, _⟩ | ⟨g', cap, cur, e, _, hgg, _⟩
  · rw [e] at hg; cases hg
  · rw [e] at hg
    injection hg with hg
    have hg : g' = g := hg
    subst hg
    exact ⟨cur, hgg⟩
theorem PP.below {X Y : World} {B D Gp : Nat} {b : Bk} {P : PS} {L : LS} {S : DS} (h : PP X B D Gp b P L S) (hb : Below X.heap.size X Y) : PP Y B D Gp b P L S :=
  ⟨(hb.block _ h.lt).trans h.blk, h.log.below hb, h.fmap.keep (hb.block _ h.fmap.lt), h.chm.keep (hb.block _ h.chm.lt), fun n f hf => ⟨(hb.block _ (h.fcells hf).2.2.2.2.2).trans (h.frs n f hf).1, (h.frs n f hf).2⟩, h.inj, row_below h.ord hb, h.low, h.dif⟩
/- the log works, the pool stays -/
theorem PP.logs {X Y : World} {B D Gp : Nat} {b : Bk} {P : PS} {L L' : LS} {S S' : DS} (h : PP X B D Gp b P L S) (hb : BelL b.G b.bp b.bf B X Y) (hl : PL Y B D b.G b.bp b.bf 60000 L' S') : PP Y B D Gp b P L' S' := by
  obtain ⟨e1, c1, m1⟩ := h.log.mp.isMap
  obtain ⟨e2, c2, m2⟩ := h.log.mf.isMap
  have k : ∀ (g : Nat) (cs : Array Value) (t : TypeId), X.heap[g]? = some (.cells cs t (0, 0)) → tyP t = false → ¬ t = 132 → Y.heap[g]? = X.heap[g]? := fun g cs t hg ht hn => by
    refine hb.far g (Array.getElem?_eq_some_iff.1 hg).1 (far_of hg ht) (fun e => ?_) (fun e => ?_) (fun e => ?_)
    · subst e; rw [h.log.blk] at hg; injection hg with hg; injection hg with _ hg _; exact hn hg.symm
    · subst e; rw [m1] at hg; cases hg
    · subst e; rw [m2] at hg; cases hg
  obtain ⟨e3, c3, m3⟩ := h.fmap.isMap
  obtain ⟨e4, c4, m4⟩ := h.chm.isMap
  have nG : ∀ {g : Nat} {es : Array MapEntry} {c : Nat}, X.heap[g]? = some (.map es c) → ¬ g = b.G := fun hg e => by subst e; rw [h.log.blk] at hg; cases hg
  refine ⟨(k Gp _ _ h.blk (by decide) (by decide)).trans h.blk, hl, h.fmap.keep (hb.far _ h.fmap.lt (h.fmap.far _) (nG m3) h.dif.2.1 h.dif.2.2.1), h.chm.keep (hb.far _ h.chm.lt (h.chm.far _) (nG m4) h.dif.2.2.2.1 h.dif.2.2.2.2), fun n f hf => ⟨(k _ _ _ (h.frs n f hf).1 (by decide) (by decide)).trans (h.frs n f hf).1, (h.frs n f hf).2⟩, h.inj, row_keep h.ord fun g hg => ?_, h.low, h.dif⟩
  obtain ⟨⟨cur, hc⟩, -⟩ := h.rowblk hg
  exact k g cur _ hc (by decide) (by decide)
theorem PP.logs_stay {X Y : World} {B D Gp : Nat} {b : Bk} {P : PS} {L : LS} {S : DS} (h : PP X B D Gp b P L S) (hb : BelL b.G b.bp b.bf B X Y) {g : Nat} {cs : Array Value} {t : TypeId} (hg : X.heap[g]? = some (.cells cs t (0, 0))) (ht : tyP t = false) (hn : ¬ t = 132) : Y.heap[g]? = X.heap[g]? := by
  obtain ⟨e1, c1, m1⟩ := h.log.mp.isMap
  obtain ⟨e2, c2, m2⟩ := h.log.mf.isMap
  refine hb.far g (Array.getElem?_eq_some_iff.1 hg).1 (far_of hg ht) (fun e => ?_) (fun e => ?_) (fun e => ?_)
  · subst e; rw [h.log.blk] at hg; injection hg with hg; injection hg with _ hg _; exact hn hg.symm
  · subst e; rw [m1] at hg; cases hg
  · subst e; rw [m2] at hg; cases hg
/- rows of numbers stay -/
def IntS (X Y : World) : Prop := ∀ (g : Nat) (cs : Array Value), X.heap[g]? = some (.cells cs 3 (0, 0)) → Y.heap[g]? = X.heap[g]?
theorem IntS.trans {X Y Z : World} (h : IntS X Y) (k : IntS Y Z) : IntS X Z := fun g cs hg => by
  have e := h g cs hg
  exact (k g cs (e.trans hg)).trans e
theorem PP.belL {X Y : World} {B D Gp : Nat} {b : Bk} {P : PS} {L : LS} {S : DS} (h : PP X B D Gp b P L S) (hb : BelL b.G b.bp b.bf B X Y) : BelP b.M b.M B X Y :=
  ⟨hb.toBelow, fun g hg hf hm => hb.far g hg (farQ hf) (fun e => by subst e; exact nfar h.log.blk (by decide) hf) (fun e => hm (by subst e; simp [Bk.M])) (fun e => hm (by subst e; simp [Bk.M])), fun _ hg => .inl hg⟩
/- one block is written that the log does not own -/
theorem PL.other {X Y : World} {B D G bp bf n c : Nat} {L : LS} {S : DS} (h : PL X B D G bp bf n L S) (hg : X.grownBy Y (some c)) (hf : farT tyP X c) (h1 : ¬ G = c) (h2 : ¬ bp = c) (h3 : ¬ bf = c) : PL Y B D G bp bf n L S :=
  ⟨(hg.block _ h.lt (fun e => by injection e with e; exact h1 e)).trans h.blk, h.low, h.dif, h.mp.keep (hg.block _ h.mp.lt (fun e => by injection e with e; exact h2 e)), h.mf.keep (hg.block _ h.mf.lt (fun e => by injection e with e; exact h3 e)), h.dsk.grown hg hf⟩
/- block c has cells of type t -/
def isC (X : World) (c : Nat) (t : TypeId) : Prop := ∃ cs, X.heap[c]? = some (.cells cs t (0, 0))
def isM (X : World) (c : Nat) : Prop := ∃ es k, X.heap[c]? = some (.map es k)
theorem ne_CM {X : World} {c d : Nat} {t : TypeId} (h : isC X c t) (k : isM X d) : ¬ d = c := fun e => by
  subst e
  obtain ⟨cs, h⟩ := h
  obtain ⟨es, q, k⟩ := k
  rw [h] at k
  cases k
theorem ne_CC {X : World} {c d : Nat} {t u : TypeId} (h : isC X c t) (k : isC X d u) (hn : ¬ u = t) : ¬ d = c := fun e => by
  subst e
  obtain ⟨cs, h⟩ := h
  obtain ⟨es, k⟩ := k
  rw [h] at k
  injection k with k
  injection k with _ k _
  exact hn k.symm
theorem isC.far {X : World} {c : Nat} {t : TypeId} (h : isC X c t) (ht : tyP t = false) : farT tyP X c := by obtain ⟨cs, h⟩ := h; exact far_of h ht
theorem grown_belP {X Y : World} {M : List Nat} {B c : Nat} (hg : X.grownBy Y (some c)) (hl : B ≤ c) (hc : ¬ farT tyQ X c ∨ c ∈ M) (hB : B ≤ X.heap.size) : BelP M M B X Y :=
  ⟨⟨hg.os, hg.tape, hg.output, hg.size, fun i hi => hg.block i (Nat.lt_of_lt_of_le hi hB) (fun e => by injection e with e; omega)⟩, fun i hi hf hm => hg.block i hi (fun e => by injection e with e; subst e; exact hc.elim (fun k => k hf) (fun k => hm k)), fun _ h => .inl h⟩
theorem below_belP {X Y : World} {B : Nat} (h : Below X.heap.size X Y) (hB : B ≤ X.heap.size) (M : List Nat) : BelP M M B X Y := ⟨h.mono hB, fun b hb _ _ => h.block b hb, fun _ h => .inl h⟩
section
variable {X Y : World} {B D Gp : Nat} {b : Bk} {P : PS} {L : LS} {S : DS}
theorem PP.kinds (h : PP X B D Gp b P L S) : isC X Gp 165 ∧ isC X b.G 132 ∧ isM X b.bp ∧ isM X b.bf ∧ isM X b.bF ∧ isM X b.bC ∧ (∀ n f, P.fs n = some f → isC X f.blk 177) ∧ (∀ g, b.vo.ownBlock = some g → isC X g 3) :=
  ⟨⟨_, h.blk⟩, ⟨_, h.log.blk⟩, h.log.mp.isMap, h.log.mf.isMap, h.fmap.isMap, h.chm.isMap, fun n f hf => ⟨_, (h.frs n f hf).1⟩, fun _ hg => (h.rowblk hg).1⟩
/- a cell of the pool's own block is written -/
theorem PP.own {k : Nat} {v : Value} {P' : PS} (h : PP X B D Gp b P L S) (he : (poolC b P).setIfInBounds k v = poolC b P') (h1 : P'.fs = P.fs) (h2 : P'.order = P.order) (h3 : P'.chg = P.chg) : PP (X.setCell ⟨Gp, k, none⟩ v) B D Gp b P' L S := by
  obtain ⟨k1, k2, k3, k4, k5, k6, k7, k8⟩ := h.kinds
  have hg := set_grown X Gp k v
  have st : ∀ c, ¬ c = Gp → c < X.heap.size → (X.setCell ⟨Gp, k, none⟩ v).heap[c]? = X.heap[c]? := fun c hc hl => hg.block c hl (fun e => by injection e with e; exact hc e)
  refine ⟨by rw [set_blk h.blk, he], h.log.other hg (k1.far (by decide)) (ne_CC k1 k2 (by decide)) (ne_CM k1 k3) (ne_CM k1 k4), ?_, ?_, fun n f hf => ?_, fun n n' f f' hf hf' => ?_, ?_, h.low, h.dif⟩
  · rw [h1]; exact h.fmap.keep (st _ (ne_CM k1 k5) h.fmap.lt)
  · rw [h3]; exact h.chm.keep (st _ (ne_CM k1 k6) h.chm.lt)
  · rw [h1] at hf; exact ⟨(st _ (ne_CC k1 (k7 n f hf) (by decide)) (h.fcells hf).2.2.2.2.2).trans (h.frs n f hf).1, (h.frs n f hf).2⟩
  · rw [h1] at hf hf'; exact h.inj n n' f f' hf hf'
  · rw [h2]; exact row_keep h.ord fun g hg' => st _ (ne_CC k1 (k8 g hg') (by decide)) (h.rowblk hg').2.2
theorem PP.own_bel (h : PP X B D Gp b P L S) (k : Nat) (v : Value) (hB : B ≤ X.heap.size) : BelP b.M b.M B X (X.setCell ⟨Gp, k, none⟩ v) := grown_belP (set_grown X Gp k v) h.low.1 (.inl (nfar h.blk (by decide))) hB
/- the order is another row, which lies in its old block or in a new one -/
theorem PP.order {v : Value} {l : List Int} {r : Option Nat} (h : PP X B D Gp b P L S) (hg : X.grownBy Y r) (hr : ∀ g, r = some g → b.vo.ownBlock = some g) (ho : Y.ownsRow B 3 1 v l.length (l.map (Value.int .i64))) (hn : ∀ g, v.ownBlock = some g → b.vo.ownBlock = some g ∨ X.heap.size ≤ g) : PP (Y.setCell ⟨Gp, 5, none⟩ v) B D Gp { b with vo := v } { P with order := l } L S := by
  obtain ⟨k1, k2, k3, k4, k5, k6, k7, k8⟩ := h.kinds
  have st : ∀ c, ¬ some c = r → c < X.heap.size → Y.heap[c]? = X.heap[c]? := fun c hc hl => hg.block c hl hc
  have nr : ∀ {c : Nat}, (∀ g, b.vo.ownBlock = some g → ¬ c = g) → ¬ some c = r := fun hc e => hc _ (hr _ e.symm) rfl
  have yblk : Y.heap[Gp]? = some (.cells (poolC b P) 165 (0, 0)) := (st _ (nr fun g hg' => ne_CC (k8 g hg') k1 (by decide)) h.lt).trans h.blk
  have ylt := (Array.getElem?_eq_some_iff.1 yblk).1
  have hg2 := set_grown Y Gp 5 v
  have st2 : ∀ c, ¬ c = Gp → c < Y.heap.size → (Y.setCell ⟨Gp, 5, none⟩ v).heap[c]? = Y.heap[c]? := fun c hc hl => hg2.block c hl (fun e => by injection e with e; exact hc e)
  have both : ∀ c, (∀ g, b.vo.ownBlock = some g → ¬ c = g) → ¬ c = Gp → c < X.heap.size → (Y.setCell ⟨Gp, 5, none⟩ v).heap[c]? = X.heap[c]? := fun c h1 h2 h3 => (st2 c h2 (Nat.lt_of_lt_of_le h3 hg.size)).trans (st c (nr h1) h3)
  have hlog : PL Y B D b.G b.bp b.bf 60000 L S := by
    cases r with
    | none => exact h.log.below ⟨hg.os, hg.tape, hg.output, hg.size, fun i hi => hg.block i hi (by simp)⟩
    | some g =>
      have := k8 g (hr g rfl)
      exact h.log.other hg (this.far (by decide)) (ne_CC this k2 (by decide)) (ne_CM this k3) (ne_CM this k4)
  refine ⟨by rw [set_blk yblk]; rfl, hlog.other hg2 (far_of yblk (by decide)) (ne_CC ⟨_, yblk⟩ ⟨_, hlog.blk⟩ (by decide)) (ne_CM ⟨_, yblk⟩ hlog.mp.isMap) (ne_CM ⟨_, yblk⟩ hlog.mf.isMap), ?_, ?_, fun n f hf => ?_, h.inj, ?_, h.low, h.dif⟩
  · exact h.fmap.keep (both _ (fun g hg' => ne_CM (k8 g hg') k5) (ne_CM k1 k5) h.fmap.lt)
  · exact h.chm.keep (both _ (fun g hg' => ne_CM (k8 g hg') k6) (ne_CM k1 k6) h.chm.lt)
  · exact ⟨(both _ (fun g hg' => ne_CC (k8 g hg') (k7 n f hf) (by decide)) (ne_CC k1 (k7 n f hf) (by decide)) (h.fcells hf).2.2.2.2.2).trans (h.frs n f hf).1, (h.frs n f hf).2⟩
  · exact row_keep ho fun g hg' => st2 g (fun e => by
      subst e
      rcases hn _ hg' with h1 | h1
      · exact ne_CC (k8 _ h1) k1 (by decide) rfl
      · have := h.lt; omega) (World.ownsRow.lt ho g hg').2
theorem PP.order_bel {v : Value} {r : Option Nat} (h : PP X B D Gp b P L S) (hg : X.grownBy Y r) (hr : ∀ g, r = some g → b.vo.ownBlock = some g) (hB : B ≤ X.heap.size) : BelP b.M b.M B X (Y.setCell ⟨Gp, 5, none⟩ v) := by
  have h1 : BelP b.M b.M B X Y := by
    cases r with
    | none => exact below_belP ⟨hg.os, hg.tape, hg.output, hg.size, fun i hi => hg.block i hi (by simp)⟩ hB _
    | some g =>
      obtain ⟨⟨cur, hc⟩, hl, -⟩ := h.rowblk (hr g rfl)
      exact grown_belP hg hl (.inl (nfar hc (by decide))) hB
  refine h1.trans (grown_belP (set_grown Y Gp 5 v) h.low.1 (.inl ?_) (Nat.le_trans hB hg.size))
  have yblk : Y.heap[Gp]? = some (.cells (poolC b P) 165 (0, 0)) := by
    refine (hg.block Gp h.lt (fun e => ?_)).trans h.blk
    have := hr _ e.symm
    exact ne_CC (h.kinds.2.2.2.2.2.2.2 _ this) h.kinds.1 (by decide) rfl
  exact nfar yblk (by decide)
/- the cells of a page's frame are written -/
theorem PP.frame {n : Int} {f f' : FrP} (h : PP X B D Gp b P L S) (hf : P.fs n = some f) (hb : f'.blk = f.blk) (hg : X.grownBy Y (some f.blk)) (hY : Y.heap[f.blk]? = some (.cells (frC f') 177 (0, 0))) : PP Y B D Gp b { P with fs := updR P.fs n f' } L S := by
  obtain ⟨k1, k2, k3, k4, k5, k6, k7, k8⟩ := h.kinds
  have kf := k7 n f hf
  have st : ∀ c, ¬ c = f.blk → c < X.heap.size → Y.heap[c]? = X.heap[c]? := fun c hc hl => hg.block c hl (fun e => by injection e with e; exact hc e)
  refine ⟨(st _ (ne_CC kf k1 (by decide)) h.lt).trans h.blk, h.log.other hg (kf.far (by decide)) (ne_CC kf k2 (by decide)) (ne_CM kf k3) (ne_CM kf k4), ?_, h.chm.keep (st _ (ne_CM kf k6) h.chm.lt), fun m g hm => ?_, fun m m' g g' hm hm' hgg => ?_, row_keep h.ord fun g hg' => st _ (ne_CC kf (k8 g hg') (by decide)) (h.rowblk hg').2.2, h.low, h.dif⟩
  · refine (h.fmap.keep (st _ (ne_CM kf k5) h.fmap.lt)).congr fun x _ => ?_
    show (updR P.fs n f' x).map (·.blk) = _
    by_cases e : x = n
    · subst e; rw [updR_at, hf]; show some f'.blk = some f.blk; rw [hb]
    · rw [updR_ne _ _ e]
  · have hm : updR P.fs n f' m = some g := hm
    by_cases e : m = n
    · subst e; rw [updR_at] at hm; injection hm with hm; subst hm; rw [hb]; exact ⟨hY, (h.frs m f hf).2⟩
    · rw [updR_ne _ _ e] at hm
      exact ⟨(st _ (fun k => e (h.inj m n g f hm hf k)) (h.fcells hm).2.2.2.2.2).trans (h.frs m g hm).1, (h.frs m g hm).2⟩
  · have hm : updR P.fs n f' m = some g := hm
    have hm' : updR P.fs n f' m' = some g' := hm'
    have b1 : ∃ q, P.fs m = some q ∧ q.blk = g.blk := by
      by_cases e : m = n
      · subst e; rw [updR_at] at hm; injection hm with hm; subst hm; exact ⟨f, hf, hb.symm⟩
      · rw [updR_ne _ _ e] at hm; exact ⟨g, hm, rfl⟩
    have b2 : ∃ q, P.fs m' = some q ∧ q.blk = g'.blk := by
      by_cases e : m' = n
      · subst e; rw [updR_at] at hm'; injection hm' with hm'; subst hm'; exact ⟨f, hf, hb.symm⟩
      · rw [updR_ne _ _ e] at hm'; exact ⟨g', hm', rfl⟩
    obtain ⟨q, q1, q2⟩ := b1
    obtain ⟨q', q1', q2'⟩ := b2
    exact h.inj m m' q q' q1 q1' (by rw [q2, q2']; exact hgg)
theorem PP.frame_bel {n : Int} {f : FrP} (h : PP X B D Gp b P L S) (hf : P.fs n = some f) (hg : X.grownBy Y (some f.blk)) (hB : B ≤ X.heap.size) : BelP b.M b.M B X Y := grown_belP hg (h.frs n f hf).2 (.inl (nfar (h.frs n f hf).1 (by decide))) hB
/- the map of frames is written -/
theorem PP.fmaps {fs : Int → Option FrP} {k : Nat} (h : PP X B D Gp b P L S) (hg : X.grownBy Y (some b.bF)) (hM : MF Y b.bF k (fun n => (fs n).map (·.blk))) (hk : k ≤ 65) (hfr : ∀ n f, fs n = some f → (X.heap[f.blk]? = some (.cells (frC f) 177 (0, 0)) ∧ B ≤ f.blk)) (hi : ∀ n n' f f', fs n = some f → fs n' = some f' → f.blk = f'.blk → n = n') : PP Y B D Gp b { P with fs := fs } L S := by
  obtain ⟨k1, k2, k3, k4, k5, k6, k7, k8⟩ := h.kinds
  have st : ∀ c, ¬ c = b.bF → c < X.heap.size → Y.heap[c]? = X.heap[c]? := fun c hc hl => hg.block c hl (fun e => by injection e with e; exact hc e)
  refine ⟨(st _ (fun e => ne_CM k1 k5 e.symm) h.lt).trans h.blk, h.log.other hg (h.fmap.far _) (fun e => ne_CM k2 k5 e.symm) (fun e => h.dif.2.1 e.symm) (fun e => h.dif.2.2.1 e.symm), hM.mono hk, h.chm.keep (st _ (fun e => h.dif.1 e.symm) h.chm.lt), fun n f hf => ?_, hi, row_keep h.ord fun g hg' => st _ (fun e => ne_CM (k8 g hg') k5 e.symm) (h.rowblk hg').2.2, h.low, h.dif⟩
  have := hfr n f hf
  exact ⟨(st _ (fun e => ne_CM ⟨_, this.1⟩ k5 e.symm) (Array.getElem?_eq_some_iff.1 this.1).1).trans this.1, this.2⟩
theorem PP.fmaps_bel (h : PP X B D Gp b P L S) (hg : X.grownBy Y (some b.bF)) (hB : B ≤ X.heap.size) : BelP b.M b.M B X Y := grown_belP hg h.low.2.1 (.inr (by simp [Bk.M])) hB
/- the set of changed pages is written -/
theorem PP.chms {c : Int → Bool} {k : Nat} (h : PP X B D Gp b P L S) (hg : X.grownBy Y (some b.bC)) (hM : MU Y b.bC k c) (hk : k ≤ 60000) : PP Y B D Gp b { P with chg := c } L S := by
  obtain ⟨k1, k2, k3, k4, k5, k6, k7, k8⟩ := h.kinds
  have st : ∀ c, ¬ c = b.bC → c < X.heap.size → Y.heap[c]? = X.heap[c]? := fun c hc hl => hg.block c hl (fun e => by injection e with e; exact hc e)
  exact ⟨(st _ (fun e => ne_CM k1 k6 e.symm) h.lt).trans h.blk, h.log.other hg (h.chm.far _) (fun e => ne_CM k2 k6 e.symm) (fun e => h.dif.2.2.2.1 e.symm) (fun e => h.dif.2.2.2.2 e.symm), h.fmap.keep (st _ h.dif.1 h.fmap.lt), hM.mono hk, fun n f hf => ⟨(st _ (fun e => ne_CM (k7 n f hf) k6 e.symm) (h.fcells hf).2.2.2.2.2).trans (h.frs n f hf).1, (h.frs n f hf).2⟩, h.inj, row_keep h.ord fun g hg' => st _ (fun e => ne_CM (k8 g hg') k6 e.symm) (h.rowblk hg').2.2, h.low, h.dif⟩
theorem PP.chms_bel (h : PP X B D Gp b P L S) (hg : X.grownBy Y (some b.bC)) (hB : B ≤ X.heap.size) : BelP b.M b.M B X Y := grown_belP hg h.low.2.2 (.inr (by simp [Bk.M])) hB
/- the set of changed pages is a new one -/
theorem PP.newset (h : PP X B D Gp b P L S) (hB : B ≤ X.heap.size) : PP ((X.alloc (.map #[] 0)).setCell ⟨Gp, 6, none⟩ (.map (some X.heap.size))) B D Gp { b with bC := X.heap.size } { P with chg := fun _ => false } L S ∧ BelP b.M ({ b with bC := X.heap.size } : Bk).M B X ((X.alloc (.map #[] 0)).setCell ⟨Gp, 6, none⟩ (.map (some X.heap.size))) := by
  have hb : Below X.heap.size X (X.alloc (.map #[] 0)) := (Below.refl _ _).alloc (Nat.le_refl _) _
  have h1 := h.below hb
  obtain ⟨k1, k2, k3, k4, k5, k6, k7, k8⟩ := h1.kinds
  have mk := MU.made X
  have hlt := h.lt
  have hg := set_grown (X.alloc (.map #[] 0)) Gp 6 (.map (some X.heap.size))
  have st : ∀ c, ¬ c = Gp → c < (X.alloc (.map #[] 0)).heap.size → ((X.alloc (.map #[] 0)).setCell ⟨Gp, 6, none⟩ (.map (some X.heap.size))).heap[c]? = (X.alloc (.map #[] 0)).heap[c]? := fun c hc hl => hg.block c hl (fun e => by injection e with e; exact hc e)
  refine ⟨⟨by rw [set_blk h1.blk]; rfl, h1.log.other hg (k1.far (by decide)) (ne_CC k1 k2 (by decide)) (ne_CM k1 k3) (ne_CM k1 k4), h1.fmap.keep (st _ (ne_CM k1 k5) h1.fmap.lt), (mk.keep (st _ (by omega) mk.lt)).mono (Nat.zero_le _), fun n f hf => ⟨(st _ (ne_CC k1 (k7 n f hf) (by decide)) (h1.fcells hf).2.2.2.2.2).trans (h1.frs n f hf).1, (h1.frs n f hf).2⟩, h1.inj, row_keep h1.ord fun g hg' => st _ (ne_CC k1 (k8 g hg') (by decide)) (h1.rowblk hg').2.2, ⟨h.low.1, h.low.2.1, hB⟩, ?_⟩, ?_⟩
  · have a1 := h.fmap.lt
    have a2 := h.log.mp.lt
    have a3 := h.log.mf.lt
    exact ⟨by show ¬ b.bF = X.heap.size; omega, h.dif.2.1, h.dif.2.2.1, by show ¬ X.heap.size = b.bp; omega, by show ¬ X.heap.size = b.bf; omega⟩
  · have b1 := (below_belP hb hB b.M).trans (h1.own_bel 6 (.map (some X.heap.size)) (Nat.le_trans hB hb.size))
    refine ⟨b1.toBelow, b1.far, fun c hc => ?_⟩
    simp [Bk.M] at hc ⊢
    rcases hc with rfl | rfl | rfl | rfl
    · simp
    · simp
    · simp
    · right; exact Nat.le_refl _
/- a block of others is written -/
theorem PP.other {c : Nat} {t : TypeId} (h : PP X B D Gp b P L S) (hg : X.grownBy Y (some c)) (hc : isC X c t) (ht : tyQ t = false) : PP Y B D Gp b P L S := by
  obtain ⟨k1, k2, k3, k4, k5, k6, k7, k8⟩ := h.kinds
  unfold tyQ at ht
  simp only [Bool.or_eq_false_iff, decide_eq_false_iff_not] at ht
  obtain ⟨⟨⟨⟨t1, t2⟩, t3⟩, t4⟩, t5⟩ := ht
  have st : ∀ d, ¬ d = c → d < X.heap.size → Y.heap[d]? = X.heap[d]? := fun d hd hl => hg.block d hl (fun e => by injection e with e; exact hd e)
  exact ⟨(st _ (ne_CC hc k1 (fun e => t3 e.symm)) h.lt).trans h.blk, h.log.other hg (hc.far t1) (ne_CC hc k2 (fun e => t2 e.symm)) (ne_CM hc k3) (ne_CM hc k4), h.fmap.keep (st _ (ne_CM hc k5) h.fmap.lt), h.chm.keep (st _ (ne_CM hc k6) h.chm.lt), fun n f hf => ⟨(st _ (ne_CC hc (k7 n f hf) (fun e => t4 e.symm)) (h.fcells hf).2.2.2.2.2).trans (h.frs n f hf).1, (h.frs n f hf).2⟩, h.inj, row_keep h.ord fun g hg' => st _ (ne_CC hc (k8 g hg') (fun e => t5 e.symm)) (h.rowblk hg').2.2, h.low, h.dif⟩
end
theorem BelP.other {M M' : List Nat} {B c : Nat} {X Y Z : World} (h : BelP M M' B X Y) (hg : Y.grownBy Z (some c)) (hc : X.heap.size ≤ c) (hB : B ≤ X.heap.size) : BelP M M' B X Z :=
  ⟨h.toBelow.trans ⟨hg.os, hg.tape, hg.output, hg.size, fun i hi => hg.block i (Nat.lt_of_lt_of_le hi (Nat.le_trans hB h.size)) (fun e => by injection e with e; omega)⟩, fun i hi hf hm => (hg.block i (Nat.lt_of_lt_of_le hi h.size) (fun e => by injection e with e; omega)).trans (h.far i hi hf hm), h.maps⟩
end Go.Proofs.YtfbankloclhplacGreat
