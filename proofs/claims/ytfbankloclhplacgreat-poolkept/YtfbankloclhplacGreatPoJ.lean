/- package pool: ranges over its maps; dirty -/
import Derived.Test.YtfbankloclhplacGreatMgH
import Derived.Test.YtfbankloclhplacGreatSrt
import Derived.Shelf.SortM.Plain
import Derived.Shelf.SortM.SortNone
namespace Go.Proofs.YtfbankloclhplacGreat
open Go.RowKit Go.Lib Go.Maps Go.Sort Go.Shelf
attribute [local go_sem ↓] Go.wp_at_zero Go.wp_at_succ
section
variable {ops : Array Oper} {rest : List Oper} {o : Oper} {a : Act} {Q : Exit → Act → World → Prop}
theorem wpList_next_ptr (w : World) (hg : o.guard = none) (it : Operand) (hop : o.op = Op.next it false) (b r n : Nat) (D : DataW Unit) (left : Lit → Bool) (cnt : Nat) (F : Int → Option Nat)
    (hK : ∀ x, i64 x → (Maps.has D (.int .i64 x) = (F x).isSome ∧ ∀ v, F x = some v → ∀ z, D.atKey (.int .i64 x) z = .lit (.int .i64 v))) (hL : ∀ x, i64 x → left (.int .i64 x) = true → Maps.has D (.int .i64 x) = true)
    (hit : a.eval it = .pointer (some ⟨r, 0, none⟩)) (h : w.ranges Tryz.prog 3 ptrElem b r n D left cnt)
    (hDone : cnt = 0 → (∀ kl, left kl = false) → wpList Tryz.prog ops Q rest (a.put o.dst (.tuple #[.bool false])) w)
    (hMore : ∀ (x : Int) (v : Nat) (w' : World) (cnt' : Nat), i64 x → left (.int .i64 x) = true → F x = some v → w'.ranges Tryz.prog 3 ptrElem b r n D (fun z => left z && !z.sameKey (.int .i64 x)) cnt' → cnt' < cnt →
      w.grownBy w' (some r) → w'.heap.size = w.heap.size → (Instr.entry (.pointer (some ⟨r, 0, none⟩))).run Tryz.prog w' = .ok (.tuple #[.int .i64 x, .pointer (some ⟨v, 0, none⟩)]) w' → wpList Tryz.prog ops Q rest (a.put o.dst (.tuple #[.bool true, .int .i64 x, .pointer (some ⟨v, 0, none⟩)])) w') :
    wpList Tryz.prog ops Q (o :: rest) a w :=
  wpList_next_ranges w hg it hop 3 lawI ptrElem (Value.int .i64) ptrO (fun key kl hkey => by obtain ⟨x, rfl, _⟩ := Maps.keyOf_int_inv Tryz.underlying3 hkey; exact ⟨x, rfl⟩)
    (fun v y hv => by
      unfold ptrElem at hv
      split at hv
      · exact ⟨none, rfl⟩
      · exact ⟨some _, rfl⟩
      · cases hv) b r n D left cnt hit h hDone (fun x c kl y w' cnt' hkey hlk hv hat hrg hlt hgr hsz hen => by
      obtain ⟨x', ex, rfl, hwx⟩ := Maps.keyOf_int_inv Tryz.underlying3 hkey
      cases ex
      obtain ⟨k1, k2⟩ := hK x hwx
      rw [hL x hwx hlk] at k1
      obtain ⟨v, hv'⟩ := Option.isSome_iff_exists.1 k1.symm
      have e := (hat .nil).symm.trans (k2 v hv' .nil)
      cases c with
      | none =>
        have hv : some (DataW.nil, []) = some y := hv
        injection hv with hv
        rw [← hv] at e
        cases e
      | some q =>
        have hv : some (DataW.lit (.int .i64 (q : Int)), []) = some y := hv
        injection hv with hv
        rw [← hv] at e
        have e : (DataW.lit (.int .i64 (q : Int)) : DataW Unit) = .lit (.int .i64 (v : Int)) := e
        injection e with e
        injection e with _ e
        obtain rfl : q = v := by omega
        exact hMore x q w' cnt' hwx hlk hv' hrg hlt hgr hsz hen)
theorem wpList_next_unit (w : World) (hg : o.guard = none) (it : Operand) (hop : o.op = Op.next it false) (b r n : Nat) (D : DataW Unit) (left : Lit → Bool) (cnt : Nat)
    (hit : a.eval it = .pointer (some ⟨r, 0, none⟩)) (h : w.ranges Tryz.prog 3 unitElem b r n D left cnt)
    (hDone : cnt = 0 → (∀ kl, left kl = false) → wpList Tryz.prog ops Q rest (a.put o.dst (.tuple #[.bool false])) w)
    (hMore : ∀ (x : Int) (w' : World) (cnt' : Nat), i64 x → left (.int .i64 x) = true → w'.ranges Tryz.prog 3 unitElem b r n D (fun z => left z && !z.sameKey (.int .i64 x)) cnt' → cnt' < cnt →
      w.grownBy w' (some r) → w'.heap.size = w.heap.size → (Instr.entry (.pointer (some ⟨r, 0, none⟩))).run Tryz.prog w' = .ok (.tuple #[.int .i64 x, .agg #[]]) w' → wpList Tryz.prog ops Q rest (a.put o.dst (.tuple #[.bool true, .int .i64 x, .agg #[]])) w') :
    wpList Tryz.prog ops Q (o :: rest) a w :=
  wpList_next_ranges w hg it hop 3 lawI unitElem (Value.int .i64) (fun _ : Unit => .agg #[]) (fun key kl hkey => by obtain ⟨x, rfl, _⟩ := Maps.keyOf_int_inv Tryz.underlying3 hkey; exact ⟨x, rfl⟩)
    (fun v y hv => ⟨(), (unitElem_inv hv).1⟩) b r n D left cnt hit h hDone (fun x c kl y w' cnt' hkey hlk hv hat hrg hlt hgr hsz hen => by
      obtain ⟨x', ex, rfl, hwx⟩ := Maps.keyOf_int_inv Tryz.underlying3 hkey
      cases ex
      exact hMore x w' cnt' hwx hlk hrg hlt hgr hsz hen)
end
/- the list so far: those of the pages that were met that are dirty -/
structure Drt (P : PS) (left : Lit → Bool) (ls : List Int) : Prop where
  nd : ls.Nodup
  mem : ∀ x, x ∈ ls ↔ (isD P x = true ∧ left (.int .i64 x) = false)
theorem Drt.skip {P : PS} {left : Lit → Bool} {ls : List Int} {x : Int} (h : Drt P left ls) (hx : isD P x = false) : Drt P (fun z => left z && !z.sameKey (.int .i64 x)) ls :=
  ⟨h.nd, fun y => by
    rw [h.mem y]
    by_cases e : y = x
    · subst e; simp [hx]
    · have : (Lit.int .i64 y).sameKey (.int .i64 x) = false := sameKey_ne (fun h => by injection h with _ h; exact e h)
      simp [this]⟩
theorem Drt.take {P : PS} {left : Lit → Bool} {ls : List Int} {x : Int} (h : Drt P left ls) (hx : isD P x = true) (hl : left (.int .i64 x) = true) : Drt P (fun z => left z && !z.sameKey (.int .i64 x)) (ls ++ [x]) := by
  refine ⟨?_, fun y => ?_⟩
  · rw [List.nodup_append]
    refine ⟨h.nd, by simp, fun a ha b hb e => ?_⟩
    simp at hb
    subst hb
    subst e
    have := ((h.mem a).1 ha).2
    rw [hl] at this
    cases this
  · rw [List.mem_append, h.mem y, List.mem_singleton]
    by_cases e : y = x
    · subst e; simp [hx, Lit.sameKey]
    · have : (Lit.int .i64 y).sameKey (.int .i64 x) = false := sameKey_ne (fun h => by injection h with _ h; exact e h)
      simp [this, e]
theorem row_ne {w : World} {base e size n k : Nat} {v : Value} {xs : List Value} (h : w.ownsRow base e size v n xs) (hk : k < base) : some k ≠ v.ownBlock := fun q => by
  have := (World.ownsRow.lt h k q.symm).1
  omega
set_option maxRecDepth 100000 in
set_option maxHeartbeats 4000000 in
theorem cdirty {w : World} {B D Gp : Nat} {V : PV} {C K : Pgs} {pk m : Nat} (h : PO w B D Gp V C K pk m) :
    Calls Tryz.prog 187 #[(.pointer (some ⟨Gp, 0, none⟩))] w fun e w' => ∃ (ls : List Int) (a : Option Addr) (c : Nat), e = .returned (.slice a ls.length c) ∧ ls.Nodup ∧ (∀ x, x ∈ ls ↔ isD V.P x = true) ∧ w'.ownsRow w.heap.size 3 1 (.slice a ls.length c) ls.length (ls.map (Value.int .i64)) ∧ Below w.heap.size w w' := by
  obtain ⟨DF, hown, HKF⟩ := h.pp.fmap
  have hbl := hown.lt
  have hsz := hown.size_le
  have HKK := hide (HKF)
  obtain ⟨c0, c1, c2, c3, c4, c5, c6, c7, c8, c9⟩ := h.pp.cells
  have HPO := hide (h)
  have HI := hide (show ∀ x, isD V.P x = true → i64 x from fun x hx => by
    unfold isD at hx
    cases hq : V.P.fs x with
    | none => rw [hq] at hx; cases hx
    | some f => have := h.pi.held hq; have := h.pi.pg; exact i64_in (by omega) (by omega))
  obtain ⟨i0, hi, hz⟩ := Option.map_eq_some_iff.1 infoIntP
  simp only [Prod.mk.injEq] at hz
  obtain ⟨hz0, hz1, hz2⟩ := hz
  clear h HKF c0 c1 c2 c3 c5 c6 c7 c8 c9
  go_enter Tryz.func187, Tryz.ntmps187
  go_wp2_with (first
    | (at_range; refine wpList_range_own _ rfl _ 162 rfl 3 175 lawI Tryz.underlying162 _ V.b.bF 65 _ rfl hown ?_; intro w0 hrg0 hg0 hs0)
    | go_in)
  try go_frame
  have HB0 := hide (show Below w.heap.size w w0 from ⟨hg0.os, hg0.tape, hg0.output, hg0.size, fun i hi => hg0.block i hi (by simp)⟩)
  have HD0 := hide (show Drt V.P (Maps.has DF) [] from ⟨by simp, fun x => by
    constructor
    · intro k; cases k
    · rintro ⟨k1, k2⟩
      have := (HKK.out x (HI.out x k1)).1
      rw [k2] at this
      unfold isD at k1
      cases hq : V.P.fs x with
      | none => rw [hq] at k1; cases k1
      | some f => rw [hq] at this; cases this⟩)
  clear hg0
  go_loopw [3] (fun v wr => ∃ (left : Lit → Bool) (cnt : Nat) (ls : List Int) (va : Option Addr) (vc : Nat), v = .slice va ls.length vc ∧ wr.ranges Tryz.prog 3 ptrElem V.b.bF w.heap.size 65 DF left cnt ∧ ls.length + cnt ≤ 65 ∧ w.heap.size < wr.heap.size ∧ Hid (∀ x, i64 x → left (.int .i64 x) = true → Maps.has DF (.int .i64 x) = true) ∧ Hid (Drt V.P left ls) ∧ Hid (wr.ownsRow (w.heap.size + 1) 3 1 (.slice va ls.length vc) ls.length (ls.map (Value.int .i64))) ∧ Hid (Below w.heap.size w wr)) (fun _ wr => wr.rangeLeft V.b.bF w.heap.size)
  case atStart => exact ⟨_, _, [], none, 0, rfl, hrg0, by simpa using hsz, by omega, hide (fun x _ h => h), HD0, hide (World.ownsRow_nil _ _ _ _), HB0⟩
  case round =>
    obtain ⟨left, cnt, ls, va, vc, rfl, hrg, hcnt, hlt0, HLF, HDR, HROW, HBr⟩ := hrel
    clear hrg0 hs0 HD0 HB0
    go_wp2_with (first
      | (at_next; refine wpList_next_ptr _ rfl _ rfl V.b.bF w.heap.size 65 DF left cnt _ HKK.out HLF.out rfl hrg ?_ ?_)
      | go_in)
    · intro hc0 hl0
      have HMEM := hide (show ls.Nodup ∧ ∀ x, x ∈ ls ↔ isD V.P x = true from ⟨HDR.out.nd, fun x => by rw [HDR.out.mem x, hl0]; simp⟩)
      rcases HROW.out.2 with ⟨e0, h0⟩ | ⟨g, cap, cur, e0, hbs, hgg, hn1, hn2, hn3, hn4⟩
      · injection e0 with ea el ec
        subst ea ec
        have hls : ls = [] := List.length_eq_zero_iff.1 h0
        subst hls
        go_wp2_with fail
        refine (AnyM.slices_Sort_int_none Tryz.sortA none 0 wr).mono ?_
        rintro e w1 ⟨rfl, hw⟩; rw [hw]; clear hw
        go_wp2
        go_ret
        exact ⟨[], none, 0, rfl, HMEM.out.1, HMEM.out.2, World.ownsRow_nil _ _ _ _, HBr.out⟩
      · injection e0 with ea el ec
        subst ea ec
        have hH := holds_of_blockI hgg (by rw [Nat.mul_one] at hn4; exact hn4)
        have HS := hide (AnyM.slices_Sort_int Tryz.sortA g 0 vc ls wr hH (Array.getElem?_eq_some_iff.1 hgg).1 (by omega))
        have HG := hide (show w.heap.size + 1 ≤ g ∧ wr.heap[g]? = some (.cells cur 3 (0, 0)) ∧ ls.length ≤ vc ∧ vc ≤ maxLen ∧ cur.size = vc * 1 from ⟨hbs, hgg, hn1, hn2, hn3⟩)
        clear hH hgg hn4
        go_wp2_with fail
        refine HS.out.mono ?_
        rintro e w2 ⟨rfl, q, os, rfl⟩
        go_wp2
        go_ret
        have hperm := List.mergeSort_perm ls (fun x y => decide (x ≤ y))
        have hl : (ls.mergeSort (fun x y => decide (x ≤ y))).length = ls.length := hperm.length_eq
        have hgs := grownBy_sortedI (w := wr) (g := g) (n := q) (os := os) (ls.mergeSort (fun x y => decide (x ≤ y))).toArray
        refine ⟨ls.mergeSort (fun x y => decide (x ≤ y)), some ⟨g, 0, none⟩, vc, by rw [hl]; rfl, hperm.nodup_iff.2 HMEM.out.1, fun x => by rw [hperm.mem_iff]; exact HMEM.out.2 x, ?_, ?_⟩
        · rw [hl]
          exact ownsRow_sortedI hl (by have := HG.out.1; omega) HG.out.2.1 HG.out.2.2.1 HG.out.2.2.2.1 HG.out.2.2.2.2
        · exact HBr.out.trans ⟨hgs.os, hgs.tape, hgs.output, hgs.size, fun i hi => hgs.block i (Nat.lt_of_lt_of_le hi HBr.out.size) (fun e => by injection e with e; have := HG.out.1; omega)⟩
    · intro x v w5 cnt1 hwx hlx f hf hfb hrg1 hlt hg1 hs1 hen
      subst hfb
      have h5 : w.heap.size < w5.heap.size := by omega
      have HSZ := hide (h5)
      clear hs1 h5
      have HB5 := hide (show Below w.heap.size w w5 from HBr.out.trans ⟨hg1.os, hg1.tape, hg1.output, hg1.size, fun i hi => hg1.block i (Nat.lt_of_lt_of_le hi HBr.out.size) (fun e => by injection e with e; omega)⟩)
      obtain ⟨f0, f1, f2, -, -, -⟩ := (HPO.out.pp.below HB5.out).fcells hf
      have HR5 := hide (show w5.ownsRow (w.heap.size + 1) 3 1 (.slice va ls.length vc) ls.length (ls.map (Value.int .i64)) from row_keep HROW.out fun g hg => hg1.block g (World.ownsRow.lt HROW.out g hg).2 (fun e => by
        injection e with e
        have := (World.ownsRow.lt HROW.out g hg).1
        omega))
      have hisd : isD V.P x = f.dirty := by unfold isD; rw [hf]
      clear f0 f1
      cases hd : f.dirty with
      | false =>
        rw [hd] at f2 hisd
        have HS := hide (HDR.out.skip hisd)
        have HLF2 := hide (show ∀ y, i64 y → (left (.int .i64 y) && !(Lit.int .i64 y).sameKey (.int .i64 x)) = true → Maps.has DF (.int .i64 y) = true from fun y hy k => HLF.out y hy (by simp at k; exact k.1))
        clear hisd
        go_wp2_with fail
        go_roundw
        case rel => exact ⟨_, cnt1, ls, va, vc, rfl, hrg1, by omega, HSZ.out, HLF2, HS, HR5, HB5⟩
        case measure => rw [hrg1.left_eq, hrg.left_eq]; exact hlt
      | true =>
        rw [hd] at f2 hisd
        have HS := hide (HDR.out.take hisd hlx)
        have HLF2 := hide (show ∀ y, i64 y → (left (.int .i64 y) && !(Lit.int .i64 y).sameKey (.int .i64 x)) = true → Maps.has DF (.int .i64 y) = true from fun y hy k => HLF.out y hy (by simp at k; exact k.1))
        clear hisd
        go_wp2_with (first
          | (at_builtin; refine wpList_append_own_at _ rfl _ _ 36 rfl (w.heap.size + 1) 3 i0 (.int .i64 0) 1 8 Tryz.underlying36 hi hz0 hz1 hz2 rfl (by decide) (.slice va ls.length vc) ls.length (ls.map (Value.int .i64)) rfl (World.ownsRow.alloc HR5.out _) ⟨w5.heap.size, 0, none⟩ 1 1 [.int .i64 x] rfl rfl (newsI _ _) (fun x hx => by simp at hx; subst hx; rfl) (by unfold maxLen; omega) (by omega) (by have := HSZ.out; simp; omega) ?_; intro v1 w6 ho1 hg6 hnil1 hown1; obtain ⟨a1, cap1, rfl⟩ := owns_sliceI ho1; have hgA : w5.grownBy w6 (Value.slice va ls.length vc).ownBlock := But.trans (World.grownBy_alloc w5 _ _) hg6; have HR6 := hide (show w6.ownsRow (w.heap.size + 1) 3 1 (.slice a1 (ls ++ [x]).length cap1) (ls ++ [x]).length ((ls ++ [x]).map (Value.int .i64)) by rw [List.length_append, List.map_append]; exact ho1); have hrg2 := hrg1.kept hgA (row_ne HR5.out (by omega)) (row_ne HR5.out (by omega)); have HB6 := hide (show Below w.heap.size w w6 from HB5.out.trans ⟨hgA.os, hgA.tape, hgA.output, hgA.size, fun i hi => hgA.block i (Nat.lt_of_lt_of_le hi HB5.out.size) (row_ne HR5.out (by omega))⟩); have hs6 := hgA.size; clear ho1 hg6 hnil1 hown1 hgA)
          | go_in)
        go_roundw
        case rel => exact ⟨_, cnt1, ls ++ [x], a1, cap1, by simp, hrg2, by simp; omega, Nat.lt_of_lt_of_le HSZ.out hs6, HLF2, HS, HR6, HB6⟩
        case measure => rw [hrg2.left_eq, hrg.left_eq]; exact hlt
end Go.Proofs.YtfbankloclhplacGreat
