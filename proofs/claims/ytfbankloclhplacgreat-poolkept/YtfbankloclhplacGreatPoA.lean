/- maps of pages to frames, sets of pages: what they hold, as functions -/
import Derived.Test.YtfbankloclhplacGreatWalM
import Derived.Maps.OwnOps
namespace Go.Proofs.YtfbankloclhplacGreat
open Go.RowKit Go.Lib Go.Maps
def litI : Lit → Int
  | .int _ x => x
  | _ => 0
/- the keys of a map, as a list -/
theorem own_keys {R : Value → Option (DataW Unit × List MemPlace)} {X : World} {b n : Nat} {D : DataW Unit} (h : X.ownsMap Tryz.prog 3 R b n D) : ∃ ks : List Int, ks.Nodup ∧ X.ownsMap Tryz.prog 3 R b ks.length D ∧ Maps.size D = ks.length ∧ (∀ x, i64 x → (Maps.has D (.int .i64 x) = true ↔ x ∈ ks)) ∧ ∀ x ∈ ks, i64 x := by
  obtain ⟨es0, e0, hp, -⟩ := h.entries lawI
  obtain ⟨es, clock, hb, F, hs, hD⟩ := h
  have hL : es0 = (es.toList.map (WideElems.rg Tryz.prog 3 R)).foldr DataW.insert [] := by
    rw [e0] at hD
    injection hD
  have hI : ∀ p ∈ es0, ∃ x, p.1 = .int .i64 x ∧ i64 x := fun p hp => by
    rw [hL, mem_sorted, List.mem_map] at hp
    obtain ⟨en, hen, rfl⟩ := hp
    obtain ⟨y, hy⟩ := F.reads en hen
    have hk := WideElems.rd_key hy
    obtain ⟨x, -, h2, h3⟩ := Maps.keyOf_int_inv Tryz.underlying3 hk
    refine ⟨x, ?_, h3⟩
    unfold WideElems.rg
    rw [hy]
    exact h2
  have hlen : es0.length = es.size := by rw [hL]; exact length_read es
  subst e0
  refine ⟨es0.map (fun p => litI p.1), ?_, ⟨es, clock, hb, F, by rw [List.length_map, hlen]; exact Nat.le_refl _, hD⟩, by rw [List.length_map]; rfl, fun x hx => ?_, fun x hx => ?_⟩
  · refine List.pairwise_map.2 (List.Pairwise.imp_of_mem ?_ hp)
    intro p q h1 h2 hne he
    obtain ⟨x, ex, -⟩ := hI p h1
    obtain ⟨y, ey, -⟩ := hI q h2
    rw [ex, ey] at he hne
    exact hne (by have : x = y := he; rw [this])
  · rw [has_eq, List.any_eq_true, List.mem_map]
    constructor
    · rintro ⟨p, h1, h2⟩
      refine ⟨p, h1, ?_⟩
      obtain ⟨y, ey, -⟩ := hI p h1
      rw [ey] at h2 ⊢
      show y = x
      by_cases e : y = x
      · exact e
      · rw [sameKey_ne (fun h => by injection h with _ h; exact e h)] at h2
        cases h2
    · rintro ⟨p, h1, h2⟩
      refine ⟨p, h1, ?_⟩
      obtain ⟨y, ey, -⟩ := hI p h1
      rw [ey] at h2 ⊢
      obtain rfl : y = x := h2
      simp [Lit.sameKey]
  · obtain ⟨p, h1, rfl⟩ := List.mem_map.1 hx
    obtain ⟨y, ey, iy⟩ := hI p h1
    rw [ey]
    exact iy
/- a pointer to a block, read as the block's number -/
def ptrElem : Value → Option (DataW Unit × List MemPlace)
  | .pointer none => some (.nil, [])
  | .pointer (some ⟨b, 0, none⟩) => some (.lit (.int .i64 b), [])
  | _ => none
theorem ptrElem_mk (b : Nat) : ptrElem (.pointer (some ⟨b, 0, none⟩)) = some (.lit (.int .i64 b), []) := rfl
theorem ptrElem_inv {v : Value} {b : Int} {ps : List MemPlace} (h : ptrElem v = some (.lit (.int .i64 b), ps)) : ∃ n : Nat, b = n ∧ v = .pointer (some ⟨n, 0, none⟩) := by
  unfold ptrElem at h
  split at h
  · injection h with h; injection h with h _; cases h
  · injection h with h; injection h with h _; injection h with h; injection h with _ h; exact ⟨_, h.symm, rfl⟩
  · cases h
theorem ptrElem_nil {v : Value} {ps : List MemPlace} (h : ptrElem v = some (.nil, ps)) : v = .pointer none := by
  unfold ptrElem at h
  split at h
  · rfl
  · injection h with h; injection h with h _; cases h
  · cases h
theorem zeroP (w : World) : (zeroValue 175).run Tryz.prog w = .ok (.pointer none) w := by kernel_rfl
/- block b is a map of pages to blocks, of at most n entries -/
def MF (X : World) (b n : Nat) (F : Int → Option Nat) : Prop := ∃ D : DataW Unit, X.ownsMap Tryz.prog 3 ptrElem b n D ∧ ∀ x, i64 x → (Maps.has D (.int .i64 x) = (F x).isSome ∧ ∀ v, F x = some v → ∀ z, D.atKey (.int .i64 x) z = .lit (.int .i64 v))
theorem MF.lt {X : World} {b n : Nat} {F : Int → Option Nat} (h : MF X b n F) : b < X.heap.size := by obtain ⟨D, h, -⟩ := h; exact h.lt
theorem MF.mono {X : World} {b n m : Nat} {F : Int → Option Nat} (h : MF X b n F) (hn : n ≤ m) : MF X b m F := by obtain ⟨D, h, k⟩ := h; exact ⟨D, h.mono hn, k⟩
theorem MF.keep {X Y : World} {b n : Nat} {F : Int → Option Nat} (h : MF X b n F) (e : Y.heap[b]? = X.heap[b]?) : MF Y b n F := by
  obtain ⟨D, ⟨es, clock, hb, r⟩, k⟩ := h
  exact ⟨D, ⟨es, clock, e.trans hb, r⟩, k⟩
theorem MF.isMap {X : World} {b n : Nat} {F : Int → Option Nat} (h : MF X b n F) : ∃ es clock, X.heap[b]? = some (.map es clock) := by
  obtain ⟨D, ⟨es, clock, hb, r⟩, k⟩ := h
  exact ⟨es, clock, hb⟩
theorem MF.far {X : World} {b n : Nat} {F : Int → Option Nat} (h : MF X b n F) (T : TypeId → Bool) : farT T X b := fun cur e fz he => by
  obtain ⟨es, clock, hb⟩ := h.isMap
  rw [hb] at he
  cases he
theorem MF.congr {X : World} {b n : Nat} {F F' : Int → Option Nat} (h : MF X b n F) (he : ∀ x, i64 x → F' x = F x) : MF X b n F' := by
  obtain ⟨D, ho, k⟩ := h
  exact ⟨D, ho, fun x hx => by rw [he x hx]; exact k x hx⟩
theorem MF.made (X : World) : MF (X.alloc (.map #[] 0)) X.heap.size 0 (fun _ => none) :=
  ⟨.map [], World.ownsMap_made X _ _ _, fun _ _ => ⟨rfl, fun v h => by cases h⟩⟩
def ptrO : Option Nat → Value
  | none => .pointer none
  | some b => .pointer (some ⟨b, 0, none⟩)
theorem MF.look {X : World} {b n : Nat} {F : Int → Option Nat} (h : MF X b n F) {x : Int} (hx : i64 x) :
    (Instr.lookup 162 (.map (some b)) (.int .i64 x) true).run Tryz.prog X = .ok (.tuple #[ptrO (F x), .bool (F x).isSome]) X := by
  obtain ⟨D, h, k⟩ := h
  obtain ⟨k1, k2⟩ := k x hx
  obtain ⟨v, ps, hrun, hR⟩ := h.look_ok lawI Tryz.underlying162 (zeroP X) (show ptrElem (.pointer none) = some (.nil, []) from rfl) (keyOf_int_mk Tryz.underlying3 hx)
  rw [hrun, k1]
  cases hF : F x with
  | none =>
    rw [hF] at k1
    rw [atKey_of_not_has k1] at hR
    rw [ptrElem_nil hR]
    rfl
  | some v =>
    rw [k2 v hF] at hR
    obtain ⟨n, e, rfl⟩ := ptrElem_inv hR
    obtain rfl : v = n := by omega
    rfl
theorem MF.look1 {X : World} {b n : Nat} {F : Int → Option Nat} (h : MF X b n F) {x : Int} (hx : i64 x) :
    (Instr.lookup 162 (.map (some b)) (.int .i64 x) false).run Tryz.prog X = .ok (ptrO (F x)) X := by
  obtain ⟨D, h, k⟩ := h
  obtain ⟨k1, k2⟩ := k x hx
  obtain ⟨v, ps, hrun, hR⟩ := h.lookup lawI Tryz.underlying162 (zeroP X) (show ptrElem (.pointer none) = some (.nil, []) from rfl) (keyOf_int_mk Tryz.underlying3 hx)
  rw [hrun]
  cases hF : F x with
  | none =>
    rw [hF] at k1
    rw [atKey_of_not_has k1] at hR
    rw [ptrElem_nil hR]
    rfl
  | some v =>
    rw [k2 v hF] at hR
    obtain ⟨n, e, rfl⟩ := ptrElem_inv hR
    obtain rfl : v = n := by omega
    rfl
def updP (F : Int → Option Nat) (k : Int) (v : Nat) : Int → Option Nat := fun x => if x = k then some v else F x
def delP (F : Int → Option Nat) (k : Int) : Int → Option Nat := fun x => if x = k then none else F x
theorem MF.put {X : World} {b n : Nat} {F : Int → Option Nat} (h : MF X b n F) (hn : n ≤ 1000000) {x : Int} {v : Nat} (hx : i64 x) :
    ∃ Y, (Instr.mapUpdate 162 (.map (some b)) (.int .i64 x) (.pointer (some ⟨v, 0, none⟩))).run Tryz.prog X = .ok () Y ∧ MF Y b (n + 1) (updP F x v) ∧ X.grownBy Y (some b) := by
  obtain ⟨D, h, k⟩ := h
  obtain ⟨Y, hrun, hY, hg⟩ := h.update lawI Tryz.underlying162 (by unfold maxLen; omega) (keyOf_int_mk Tryz.underlying3 hx) (ptrElem_mk v)
  refine ⟨Y, hrun, ⟨_, hY, fun y hy => ?_⟩, hg⟩
  unfold updP
  by_cases e : y = x
  · subst e
    rw [if_pos rfl]
    refine ⟨has_put_same h.isMap (keyLit _) _, fun u hu z => ?_⟩
    obtain rfl : v = u := by simpa using hu
    exact atKey_put_same h.isMap (keyLit _) _ z
  · have ne : Lit.int .i64 y ≠ Lit.int .i64 x := fun h => by injection h with _ h; exact e h
    rw [if_neg e, has_put_other ne]
    exact ⟨(k y hy).1, fun u hu z => by rw [atKey_put_other ne]; exact (k y hy).2 u hu z⟩
theorem MF.drop {X : World} {b n : Nat} {F : Int → Option Nat} (h : MF X b n F) {x : Int} (hx : i64 x) (ty : TypeId) :
    ∃ Y, (Builtin.delete_ #[162, 3] ty #[.map (some b), .int .i64 x]).run Tryz.prog X = .ok (.tuple #[]) Y ∧ MF Y b n (delP F x) ∧ X.grownBy Y (some b) := by
  obtain ⟨D, h, k⟩ := h
  obtain ⟨Y, hrun, hY, hg⟩ := h.drop lawI Tryz.underlying162 (keyOf_int_mk Tryz.underlying3 hx) ty
  refine ⟨Y, hrun, ⟨_, hY, fun y hy => ?_⟩, hg.grown⟩
  unfold delP
  by_cases e : y = x
  · subst e
    rw [if_pos rfl]
    exact ⟨has_del_same, fun u hu z => by cases hu⟩
  · have ne : Lit.int .i64 y ≠ Lit.int .i64 x := fun h => by injection h with _ h; exact e h
    rw [if_neg e, has_del_other ne]
    exact ⟨(k y hy).1, fun u hu z => by rw [atKey_del_other ne]; exact (k y hy).2 u hu z⟩
/- block b is a set of pages, of at most n entries -/
def MU (X : World) (b n : Nat) (F : Int → Bool) : Prop := ∃ D : DataW Unit, X.ownsMap Tryz.prog 3 unitElem b n D ∧ ∀ x, i64 x → Maps.has D (.int .i64 x) = F x
theorem MU.lt {X : World} {b n : Nat} {F : Int → Bool} (h : MU X b n F) : b < X.heap.size := by obtain ⟨D, h, -⟩ := h; exact h.lt
theorem MU.mono {X : World} {b n m : Nat} {F : Int → Bool} (h : MU X b n F) (hn : n ≤ m) : MU X b m F := by obtain ⟨D, h, k⟩ := h; exact ⟨D, h.mono hn, k⟩
theorem MU.keep {X Y : World} {b n : Nat} {F : Int → Bool} (h : MU X b n F) (e : Y.heap[b]? = X.heap[b]?) : MU Y b n F := by
  obtain ⟨D, ⟨es, clock, hb, r⟩, k⟩ := h
  exact ⟨D, ⟨es, clock, e.trans hb, r⟩, k⟩
theorem MU.isMap {X : World} {b n : Nat} {F : Int → Bool} (h : MU X b n F) : ∃ es clock, X.heap[b]? = some (.map es clock) := by
  obtain ⟨D, ⟨es, clock, hb, r⟩, k⟩ := h
  exact ⟨es, clock, hb⟩
theorem MU.far {X : World} {b n : Nat} {F : Int → Bool} (h : MU X b n F) (T : TypeId → Bool) : farT T X b := fun cur e fz he => by
  obtain ⟨es, clock, hb⟩ := h.isMap
  rw [hb] at he
  cases he
theorem MU.congr {X : World} {b n : Nat} {F F' : Int → Bool} (h : MU X b n F) (he : ∀ x, i64 x → F' x = F x) : MU X b n F' := by
  obtain ⟨D, ho, k⟩ := h
  exact ⟨D, ho, fun x hx => by rw [he x hx]; exact k x hx⟩
theorem MU.made (X : World) : MU (X.alloc (.map #[] 0)) X.heap.size 0 (fun _ => false) :=
  ⟨.map [], World.ownsMap_made X _ _ _, fun _ _ => rfl⟩
def updU (F : Int → Bool) (k : Int) : Int → Bool := fun x => if x = k then true else F x
theorem MU.put {X : World} {b n : Nat} {F : Int → Bool} (h : MU X b n F) (hn : n ≤ 1000000) {x : Int} (hx : i64 x) :
    ∃ Y, (Instr.mapUpdate 163 (.map (some b)) (.int .i64 x) (.agg #[])).run Tryz.prog X = .ok () Y ∧ MU Y b (n + 1) (updU F x) ∧ X.grownBy Y (some b) := by
  obtain ⟨D, h, k⟩ := h
  obtain ⟨Y, hrun, hY, hg⟩ := h.update lawI Tryz.underlying163 (by unfold maxLen; omega) (keyOf_int_mk Tryz.underlying3 hx) unitElem_mk
  refine ⟨Y, hrun, ⟨_, hY, fun y hy => ?_⟩, hg⟩
  unfold updU
  by_cases e : y = x
  · subst e
    rw [if_pos rfl]
    exact has_put_same h.isMap (keyLit _) _
  · have ne : Lit.int .i64 y ≠ Lit.int .i64 x := fun h => by injection h with _ h; exact e h
    rw [if_neg e, has_put_other ne]
    exact k y hy
/- its length: 0 where nothing is in it -/
theorem MU.len {X : World} {b n : Nat} {F : Int → Bool} (h : MU X b n F) (ty : TypeId) : ∃ k : Nat, (Builtin.len_ #[163] ty #[.map (some b)]).run Tryz.prog X = .ok (.int .i64 k) X ∧ k ≤ n ∧ (k = 0 ↔ ∀ x, i64 x → F x = false) := by
  obtain ⟨D, h, k⟩ := h
  obtain ⟨ks, h1, h2, h3, h4, h5⟩ := own_keys h
  refine ⟨_, h.len Tryz.underlying163 ty, h.size_le, ?_⟩
  rw [h3, List.length_eq_zero_iff]
  constructor
  · intro h0 x hx
    rw [← k x hx]
    have := h4 x hx
    rw [h0] at this
    cases hh : Maps.has D (.int .i64 x) with
    | false => rfl
    | true => exact absurd (this.1 hh) (List.not_mem_nil)
  · intro hF
    cases ks with
    | nil => rfl
    | cons x r =>
      have i := h5 x (List.mem_cons_self ..)
      have := (h4 x i).2 (List.mem_cons_self ..)
      rw [k x i, hF x i] at this
      cases this
theorem nodup_len : ∀ {ks l : List Int}, ks.Nodup → (∀ x ∈ ks, x ∈ l) → ks.length ≤ l.length
  | [], _, _, _ => Nat.zero_le _
  | x :: r, l, hn, hs => by
    obtain ⟨h1, h2⟩ := List.nodup_cons.1 hn
    have hx := hs x (List.mem_cons_self ..)
    have := nodup_len (ks := r) (l := l.erase x) h2 (fun y hy => (List.mem_erase_of_ne (fun (e : y = x) => h1 (by rw [← e]; exact hy))).2 (hs y (List.mem_cons_of_mem _ hy)))
    rw [List.length_erase_of_mem hx] at this
    have hp : 0 < l.length := List.length_pos_of_mem hx
    simp
    omega
theorem MI.small {X : World} {b n k : Nat} {F : Int → Option Int} (h : MI X b n F) (hF : ∀ x, (F x).isSome = true → 0 ≤ x ∧ x < k) : MI X b k F := by
  obtain ⟨D, h, hk⟩ := h
  obtain ⟨ks, h1, h2, h3, h4, h5⟩ := own_keys h
  refine ⟨D, h2.mono ?_, hk⟩
  have := nodup_len (ks := ks) (l := (List.range k).map (fun n : Nat => (n : Int))) h1 (fun x hx => by
    have i := h5 x hx
    have := hF x (by rw [← (hk x i).1]; exact (h4 x i).2 hx)
    rw [List.mem_map]
    exact ⟨x.toNat, List.mem_range.2 (by omega), by omega⟩)
  simpa using this
theorem MU.small {X : World} {b n : Nat} {F : Int → Bool} (h : MU X b n F) (k : Nat) (hF : ∀ x, F x = true → 0 ≤ x ∧ x < k) : MU X b k F := by
  obtain ⟨D, h, hk⟩ := h
  obtain ⟨ks, h1, h2, h3, h4, h5⟩ := own_keys h
  refine ⟨D, h2.mono ?_, hk⟩
  have := nodup_len (ks := ks) (l := (List.range k).map (fun n : Nat => (n : Int))) h1 (fun x hx => by
    have i := h5 x hx
    have := hF x (by rw [← hk x i]; exact (h4 x i).2 hx)
    rw [List.mem_map]
    exact ⟨x.toNat, List.mem_range.2 (by omega), by omega⟩)
  simpa using this
theorem MF.small {X : World} {b n : Nat} {F : Int → Option Nat} (h : MF X b n F) (l : List Int) (hF : ∀ x, (F x).isSome = true → x ∈ l) : MF X b l.length F := by
  obtain ⟨D, h, hk⟩ := h
  obtain ⟨ks, h1, h2, h3, h4, h5⟩ := own_keys h
  exact ⟨D, h2.mono (nodup_len h1 (fun x hx => hF x (by rw [← (hk x (h5 x hx)).1]; exact (h4 x (h5 x hx)).2 hx))), hk⟩
end Go.Proofs.YtfbankloclhplacGreat
