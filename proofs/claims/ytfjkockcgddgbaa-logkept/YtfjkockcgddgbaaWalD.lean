/- maps of texts, and relstorekeep's with -/
import Derived.Test.YtfjkockcgddgbaaWalM
import Derived.Test.YtfjkockcgddgbaaWal1
import Derived.Maps.StringElems
namespace Go.Proofs.Ytfjkockcgddgbaa
open Go.RowKit Go.Lib Go.Maps
attribute [local go_sem ↓] Go.wp_at_zero Go.wp_at_succ
theorem zeroS (w : World) : (zeroValue 9).run Try.prog w = .ok (.string ⟨#[]⟩) w := by kernel_rfl
/- block b is a map of texts that holds F, of at most n entries -/
def MS (X : World) (b n : Nat) (F : Int → Option ByteArray) : Prop := ∃ D : DataW Unit, X.ownsMap Try.prog 3 (plainElem Try.prog 9) b n D ∧ ∀ x, i64 x → (Maps.has D (.int .i64 x) = (F x).isSome ∧ ∀ v, F x = some v → ∀ z, D.atKey (.int .i64 x) z = .lit (.string v.data.toList))
def updS (F : Int → Option ByteArray) (k : Int) (v : ByteArray) : Int → Option ByteArray := fun x => if x = k then some v else F x
theorem MS.lt {X : World} {b n : Nat} {F : Int → Option ByteArray} (h : MS X b n F) : b < X.heap.size := by obtain ⟨D, h, -⟩ := h; exact h.lt
theorem MS.mono {X : World} {b n m : Nat} {F : Int → Option ByteArray} (h : MS X b n F) (hn : n ≤ m) : MS X b m F := by obtain ⟨D, h, k⟩ := h; exact ⟨D, h.mono hn, k⟩
theorem MS.keep {X Y : World} {b n : Nat} {F : Int → Option ByteArray} (h : MS X b n F) (e : Y.heap[b]? = X.heap[b]?) : MS Y b n F := by
  obtain ⟨D, ⟨es, clock, hb, r⟩, k⟩ := h
  exact ⟨D, ⟨es, clock, e.trans hb, r⟩, k⟩
theorem MS.isMap {X : World} {b n : Nat} {F : Int → Option ByteArray} (h : MS X b n F) : ∃ es clock, X.heap[b]? = some (.map es clock) := by
  obtain ⟨D, ⟨es, clock, hb, r⟩, k⟩ := h
  exact ⟨es, clock, hb⟩
theorem MS.far {X : World} {b n : Nat} {F : Int → Option ByteArray} (h : MS X b n F) (T : TypeId → Bool) : farT T X b := fun cur e fz he => by
  obtain ⟨es, clock, hb⟩ := h.isMap
  rw [hb] at he
  cases he
theorem MS.congr {X : World} {b n : Nat} {F F' : Int → Option ByteArray} (h : MS X b n F) (he : ∀ x, i64 x → F' x = F x) : MS X b n F' := by
  obtain ⟨D, ho, k⟩ := h
  exact ⟨D, ho, fun x hx => by rw [he x hx]; exact k x hx⟩
theorem MS.made (X : World) : MS (X.alloc (.map #[] 0)) X.heap.size 0 (fun _ => none) :=
  ⟨.map [], World.ownsMap_made X _ _ _, fun _ _ => ⟨rfl, fun v h => by cases h⟩⟩
theorem MS.look {X : World} {b n : Nat} {F : Int → Option ByteArray} (h : MS X b n F) {x : Int} (hx : i64 x) :
    (Instr.lookup 42 (.map (some b)) (.int .i64 x) true).run Try.prog X = .ok (.tuple #[.string ((F x).getD ⟨#[]⟩), .bool (F x).isSome]) X := by
  obtain ⟨D, h, k⟩ := h
  obtain ⟨k1, k2⟩ := k x hx
  obtain ⟨v, ps, hrun, hR⟩ := h.look_ok lawI Try.underlying42 (zeroS X) (plainElem_string (H := Unit) Try.underlying9 (by decide)) (keyOf_int_mk Try.underlying3 hx)
  obtain ⟨c, rfl, hc, -⟩ := plainElem_string_inv Try.underlying9 hR
  simp only [Prod.mk.injEq] at hc
  rw [hrun, k1]
  cases hF : F x with
  | none =>
    rw [hF] at k1
    rw [atKey_of_not_has k1] at hc
    have e : c = ⟨#[]⟩ := by
      have := hc.1
      simp at this
      cases c
      simp at this
      rw [this]
    simp [e]
  | some v =>
    rw [k2 v hF] at hc
    have e : c = v := by
      have := hc.1
      simp at this
      exact ll_inj (by unfold ll; rw [this])
    simp [e]
theorem MS.put {X : World} {b n : Nat} {F : Int → Option ByteArray} (h : MS X b n F) (hn : n ≤ 1000000) {x : Int} {v : ByteArray} (hx : i64 x) (hv : v.size ≤ 1048576) :
    ∃ Y, (Instr.mapUpdate 42 (.map (some b)) (.int .i64 x) (.string v)).run Try.prog X = .ok () Y ∧ MS Y b (n + 1) (updS F x v) ∧ X.grownBy Y (some b) := by
  obtain ⟨D, h, k⟩ := h
  obtain ⟨Y, hrun, hY, hg⟩ := h.update lawI Try.underlying42 (by unfold maxLen; omega) (keyOf_int_mk Try.underlying3 hx) (plainElem_string (H := Unit) (s := v) Try.underlying9 (by unfold maxLen; omega))
  refine ⟨Y, hrun, ⟨_, hY, fun y hy => ?_⟩, hg⟩
  unfold updS
  by_cases e : y = x
  · subst e
    rw [if_pos rfl]
    refine ⟨has_put_same h.isMap (keyLit _) _, fun u hu z => ?_⟩
    obtain rfl : v = u := by simpa using hu
    exact atKey_put_same h.isMap (keyLit _) _ z
  · have ne : Lit.int .i64 y ≠ Lit.int .i64 x := fun h => by injection h with _ h; exact e h
    rw [if_neg e, has_put_other ne]
    exact ⟨(k y hy).1, fun u hu z => by rw [atKey_put_other ne]; exact (k y hy).2 u hu z⟩
/- with: F, but s at n -/
def wth (F : Int → Option ByteArray) (n : Int) (s : ByteArray) : Int → Option ByteArray := updS F n s
def wthL (F : Int → Option ByteArray) (n : Int) (s : ByteArray) (left : Lit → Bool) : Int → Option ByteArray := fun x => if x = n then some s else if left (.int .i64 x) = true then none else F x
set_option maxRecDepth 100000 in
set_option maxHeartbeats 1000000 in
theorem cwith (b N : Nat) (F : Int → Option ByteArray) (n : Int) (s : ByteArray) (X : World) (h : MS X b N F) (hN : N ≤ 100000) (hn : i64 n) (hs : s.size ≤ 1048576) (hF : ∀ x v, F x = some v → v.size ≤ 1048576) :
    Calls Try.prog 16 #[.map (some b), .int .i64 n, .string s] X fun e w' => e = .returned (.map (some X.heap.size)) ∧ MS w' X.heap.size (N + 1) (wth F n s) ∧ Below X.heap.size X w' := by
  obtain ⟨DF, hown, HK⟩ := h
  have hbl := hown.lt
  have HKK : Hid _ := HK
  have hmm := @run_makeMap Try.prog
  have e1 : (X.alloc (.map #[] 0)).heap.size = X.heap.size + 1 := by simp
  obtain ⟨Y, hrun, hMY, hgY⟩ := (MS.made X).put (by omega) hn hs
  clear HK
  go_enter Try.func16, Try.ntmps16
  have hownY : Y.ownsMap Try.prog 3 (plainElem Try.prog 9) b N DF := (hown.alloc _).kept hgY (fun e => by injection e with e; omega)
  have HBY : Hid (Below X.heap.size X Y) := ⟨hgY.os, hgY.tape, hgY.output, Nat.le_trans (by simp) hgY.size, fun i hi => (hgY.block i (by simp; omega) (fun e => by injection e with e; omega)).trans (heap_alloc_old X _ hi)⟩
  have hXY : Hid (X.heap.size < Y.heap.size) := hMY.lt
  have HMY : Hid (MS Y X.heap.size (0 + 1) (updS (fun _ => none) n s)) := hMY
  have hsz := hown.size_le
  clear hgY hMY
  go_wp2_with (first
    | (at_range; refine wpList_range_own _ rfl _ 42 rfl 3 9 lawI Try.underlying42 _ b N _ rfl hownY ?_; intro w0 hrg0 hg0 hs0)
    | go_in)
  go_frame
  have HM0 : Hid (MS w0 X.heap.size 1 (wthL F n s (Maps.has DF))) := by
    refine MS.congr (HMY.out.keep (hg0.block _ HMY.out.lt (by simp))) (fun x hx => ?_)
    have k := (HKK.out x hx).1
    unfold wthL updS
    by_cases e : x = n
    · rw [if_pos e, if_pos e]
    · rw [if_neg e, if_neg e]
      cases hq : F x with
      | none => split <;> rfl
      | some v => rw [k, hq]; rfl
  have HB0 : Hid (Below X.heap.size X w0) := HBY.out.trans (Below.mono ⟨hg0.os, hg0.tape, hg0.output, hg0.size, fun i hi => hg0.block i hi (by simp)⟩ (Nat.le_of_lt hXY.out))
  clear hg0 hs0 hrun hmm HMY HBY
  go_loopw [8] (fun _ wr => ∃ (left : Lit → Bool) (cnt M : Nat), wr.ranges Try.prog 3 (plainElem Try.prog 9) b Y.heap.size N DF left cnt ∧ M + cnt ≤ N + 1 ∧ Hid (∀ x, i64 x → left (.int .i64 x) = true → Maps.has DF (.int .i64 x) = true) ∧ Hid (MS wr X.heap.size M (wthL F n s left)) ∧ Hid (Below X.heap.size X wr)) (fun _ wr => wr.rangeLeft b Y.heap.size)
  case atStart => exact ⟨_, _, 1, hrg0, by omega, fun x _ h => h, HM0, HB0⟩
  case round =>
    obtain ⟨left, cnt, M, hrg, hM, HLF, HMr, HBr⟩ := hrel
    have hne1 : ¬ Y.heap.size = X.heap.size := by have := hXY.out; omega
    go_wp2_with (first
      | (at_next; refine wpList_next_ranges_is _ rfl _ rfl 3 9 .i64 lawI Try.underlying3 Try.underlying9 b Y.heap.size N _ _ _ rfl hrg ?_ ?_)
      | go_in)
    · intro hc0 hl0
      go_wp2
      go_ret
      refine ⟨rfl, (HMr.out.mono (by omega)).congr (fun x _ => ?_), HBr.out⟩
      unfold wth wthL updS
      rw [hl0, if_neg (show ¬ (false = true) by decide)]
    · intro x c w5 cnt1 hwx hwc hlx hat hrg1 hlt hg1 hs1 hen
      have HX : Hid (F x = some c) := by
        show F x = some c
        have k := HKK.out x hwx
        rw [HLF.out x hwx hlx] at k
        cases hq : F x with
        | none => rw [hq] at k; cases k.1
        | some v =>
          have := (k.2 v hq .nil).symm.trans (hat .nil)
          simp at this
          exact congrArg some (ll_inj (by unfold ll; rw [this]))
      have HM5 : Hid (MS w5 X.heap.size M (wthL F n s left)) := HMr.out.keep (hg1.block _ HMr.out.lt (fun e => by injection e with e; exact hne1 e.symm))
      have HB5 : Hid (Below X.heap.size X w5) := ⟨hg1.os.trans HBr.out.os, hg1.tape.trans HBr.out.tape, hg1.output.trans HBr.out.output, Nat.le_trans HBr.out.size hg1.size, fun i hi => (hg1.block i (Nat.lt_of_lt_of_le hi HBr.out.size) (fun e => by injection e with e; have := hXY.out; omega)).trans (HBr.out.block i hi)⟩
      by_cases hxn : x = n
      · subst hxn
        have HS : Hid (MS w5 X.heap.size M (wthL F x s (fun z => left z && !z.sameKey (.int .i64 x)))) := HM5.out.congr (fun y _ => by
          unfold wthL
          by_cases e : y = x
          · rw [if_pos e, if_pos e]
          · rw [if_neg e, if_neg e]
            have : (Lit.int .i64 y).sameKey (.int .i64 x) = false := sameKey_ne (fun h => by injection h with _ h; exact e h)
            show (if (left (.int .i64 y) && !(Lit.int .i64 y).sameKey (.int .i64 x)) = true then none else F y) = _
            rw [this, Bool.not_false, Bool.and_true])
        go_wp2
        go_roundw
        case rel => exact ⟨_, cnt1, M, hrg1, by omega, fun y hy h => HLF.out y hy (by simp at h; exact h.1), HS, HB5⟩
        case measure => rw [hrg1.left_eq, hrg.left_eq]; exact hlt
      · have hxn' : (x != n) = true := by simpa using hxn
        obtain ⟨Z, hrun, hMZ, hgZ⟩ := HM5.out.put (by omega) hwx (hF x c HX.out)
        have HS : Hid (MS Z X.heap.size (M + 1) (wthL F n s (fun z => left z && !z.sameKey (.int .i64 x)))) := hMZ.congr (fun y _ => by
          unfold wthL updS
          by_cases e : y = x
          · rw [if_pos e, if_neg (by rw [e]; exact hxn), e, HX.out]
            exact if_neg (by simp [Lit.sameKey])
          · rw [if_neg e]
            have : (Lit.int .i64 y).sameKey (.int .i64 x) = false := sameKey_ne (fun h => by injection h with _ h; exact e h)
            show (if y = n then some s else if (left (.int .i64 y) && !(Lit.int .i64 y).sameKey (.int .i64 x)) = true then none else F y) = _
            rw [this, Bool.not_false, Bool.and_true])
        have hrg2 := hrg1.kept hgZ (fun e => by injection e with e; omega) (fun e => by injection e with e; exact hne1 e)
        have HBZ : Hid (Below X.heap.size X Z) := ⟨hgZ.os.trans HB5.out.os, hgZ.tape.trans HB5.out.tape, hgZ.output.trans HB5.out.output, Nat.le_trans HB5.out.size hgZ.size, fun i hi => (hgZ.block i (Nat.lt_of_lt_of_le hi HB5.out.size) (fun e => by injection e with e; omega)).trans (HB5.out.block i hi)⟩
        clear hMZ hgZ
        go_wp2
        go_roundw
        case rel => exact ⟨_, cnt1, M + 1, hrg2, by omega, fun y hy h => HLF.out y hy (by simp at h; exact h.1), HS, HBZ⟩
        case measure => rw [hrg2.left_eq, hrg.left_eq]; exact hlt
end Go.Proofs.Ytfjkockcgddgbaa
