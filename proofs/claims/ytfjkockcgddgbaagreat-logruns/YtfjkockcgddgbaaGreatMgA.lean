/- relstorekeep's pick and sheet -/
import Derived.Test.YtfjkockcgddgbaaGreatWal1
import Derived.Test.YtfjkockcgddgbaaGreatWalM
import Derived.Maps.StringElems
import Derived.Test.YtfjkockcgddgbaaGreatWalG
import Derived.Test.YtfjkockcgddgbaaGreatDskA
import Derived.Test.YtfjkockcgddgbaaGreatWalF
namespace Go.Proofs.YtfjkockcgddgbaaGreat
open Go.RowKit Go.Lib
attribute [local go_sem ↓] Go.wp_at_zero Go.wp_at_succ
def pickI (c n : Int) : Int := (if c < 0 then -(c + 1) else c) % n
theorem pickI_in (c : Int) {n : Int} (hn : 0 < n) : 0 ≤ pickI c n ∧ pickI c n < n := ⟨Int.emod_nonneg _ (by omega), Int.emod_lt_of_pos _ hn⟩
set_option maxRecDepth 20000 in
set_option maxHeartbeats 1000000 in
theorem cpick (c n : Int) (w : World) (hc : -9223372036854775808 ≤ c ∧ c ≤ 9223372036854775807) (hn : 0 < n ∧ n ≤ 1000) : Calls Tryz.prog 32 #[.int .i64 c, .int .i64 n] w fun e w' => e = .returned (.int .i64 (pickI c n)) ∧ w' = w := by
  unfold pickI
  by_cases h : c < 0
  · rw [if_pos h]
    have t2 : -((c + 1).tmod n) = (-(c + 1)) % n := by rw [← Int.neg_tmod, Int.tmod_eq_emod_of_nonneg (by omega)]
    have T2 : Hid _ := t2
    clear t2
    go_enter Tryz.func32, Tryz.ntmps32
    go_wp2
    go_ret
    exact ⟨congrArg (fun z => Ending.returned (.int .i64 z)) T2.out, rfl⟩
  · rw [if_neg h]
    have t1 : c.tmod n = c % n := Int.tmod_eq_emod_of_nonneg (by omega)
    go_enter Tryz.func32, Tryz.ntmps32
    go_wp2
    go_ret
    exact ⟨rfl, rfl⟩
/- a page's bytes in a block of their own -/
def Pg (W : World) (g : Nat) (l : List UInt8) : Prop := l.length = 1024 ∧ W.heap[g]? = some (.cells (valsB l).toArray 5 (0, 0))
def blank : List UInt8 := List.replicate 1024 0
theorem blank_len : blank.length = 1024 := by unfold blank; exact List.length_replicate
theorem blank_cells : valsB blank = List.replicate 1024 (.int .u8 0) := by unfold valsB blank; rw [List.map_replicate]; rfl
theorem makeB (w : World) : (Instr.makeSlice 79 (.int .i64 1024) (.int .i64 1024)).run Tryz.prog w = .ok (.slice (some ⟨w.heap.size, 0, none⟩) 1024 1024) (w.alloc (.cells (valsB blank).toArray 5)) := by
  have hI : (Tryz.prog.info? 5).map (fun i => (i.zero, i.size, i.bytes)) = some (some (.int .u8 0), 1, 1) := by kernel_rfl
  obtain ⟨i0, hi, hz0, hz1, hz2⟩ := info_parts hI
  rw [run_make w 79 5 i0 (.int .u8 0) Tryz.underlying79 hi hz0 .i64 .i64 1024 1024 (by decide) (by decide) (by rw [hz2]; decide) (by decide), hz1]
  have e : madeCells (Value.int IntKind.u8 0).cells ((1024 : Int).toNat * 1) = (valsB blank).toArray := by
    apply Array.ext'
    show (madeCells #[.int .u8 0] 1024).toList = valsB blank
    rw [toList_madeCells_one, blank_cells]
  rw [e]
  rfl
theorem Pg.cell {W : World} {g : Nat} {l : List UInt8} (h : Pg W g l) {i : Nat} (hi : i < 1024) : W.cell? ⟨g, i, none⟩ = some (.int .u8 ((l[i]'(by rw [h.1]; exact hi)).toNat)) ∧ W.frozen? ⟨g, i, none⟩ = false := by
  have hl := h.1
  constructor
  · simp [World.cell?, h.2, valsB, hl, hi]
  · simp [World.frozen?, h.2]
theorem Pg.set {W : World} {g : Nat} {l : List UInt8} (h : Pg W g l) (i : Nat) (x : UInt8) : Pg (W.setCell ⟨g, i, none⟩ (.int .u8 x.toNat)) g (l.set i x) := by
  refine ⟨by rw [List.length_set]; exact h.1, ?_⟩
  rw [set_blk h.2]
  congr 2
  simp [valsB]
theorem Pg.text {W : World} {g : Nat} {l : List UInt8} (h : Pg W g l) : (convert 79 9 (.slice (some ⟨g, 0, none⟩) 1024 1024)).run Tryz.prog W = .ok (.string ⟨l.toArray⟩) W := by
  have := run_convert_bytes_back (P := Tryz.prog) W 79 9 5 ⟨g, 0, none⟩ 1024 l Tryz.underlying79 Tryz.underlying5 Tryz.underlying9 (fun j hj => by
    rw [Addr.add_lit]
    simp [World.cell?, h.2, valsB, hj])
  rw [h.1] at this
  exact this
def shX (n : Int) (i : Nat) : UInt8 := UInt8.ofNat ((n * (((i / 100 : Nat) : Int) + 1)) % 256).toNat
theorem sh_eq (n : Int) (i : Nat) : wrap64 (n * ((i : Int) / 100 + 1)) % 256 = ((shX n i).toNat : Int) := by
  unfold shX wrap64
  rw [show ((i / 100 : Nat) : Int) = (i : Int) / 100 by omega]
  generalize n * ((i : Int) / 100 + 1) = z
  rw [UInt8.toNat_ofNat']
  omega
def shL (n : Int) (i : Nat) : List UInt8 := (List.range i).map (shX n) ++ List.replicate (1024 - i) 0
def shB (n : Int) : ByteArray := ⟨(shL n 1024).toArray⟩
theorem shL_len (n : Int) {i : Nat} (h : i ≤ 1024) : (shL n i).length = 1024 := by unfold shL; simp; omega
theorem shB_size (n : Int) : (shB n).size = 1024 := shL_len n (Nat.le_refl _)
theorem shL_zero (n : Int) : shL n 0 = blank := rfl
theorem shL_succ (n : Int) {i : Nat} (h : i < 1024) : (shL n i).set i (shX n i) = shL n (i + 1) := by
  unfold shL
  rw [List.range_succ, List.map_append, List.set_append, if_neg (by simp), List.append_assoc]
  congr 1
  rw [show 1024 - i = (1024 - (i + 1)) + 1 by omega, List.replicate_succ]
  simp
set_option maxRecDepth 20000 in
set_option maxHeartbeats 1000000 in
theorem csheet (n : Int) (w : World) : Calls Tryz.prog 36 #[.int .i64 n] w fun e w' => e = .returned (.string (shB n)) ∧ Below w.heap.size w w' := by
  have hm := makeB w
  have HZ : Hid (Pg (w.alloc (.cells (valsB blank).toArray 5)) w.heap.size blank) := ⟨blank_len, heap_alloc_new w _⟩
  have HB0 : Hid (Below w.heap.size w (w.alloc (.cells (valsB blank).toArray 5))) := (Below.refl _ _).alloc (Nat.le_refl _) _
  go_enter Tryz.func36, Tryz.ntmps36
  go_wp2_with fail
  generalize w.alloc (.cells (valsB blank).toArray 5) = W0 at *
  go_loopw [8] (fun u Y => ∃ i : Nat, u = .int .i64 i ∧ i ≤ 1024 ∧ Hid (Pg Y w.heap.size (shL n i)) ∧ Hid (Below w.heap.size w Y)) (fun u _ => 1024 - (intOf u).toNat)
  case atStart => exact ⟨0, rfl, Nat.zero_le _, by rw [shL_zero]; exact HZ.out, HB0⟩
  case round =>
    obtain ⟨i, rfl, hi, HP, HB⟩ := hrel
    by_cases hlt : i < 1024
    · have k1 : (i : Int) < 1024 := by omega
      obtain ⟨c0, f0⟩ := HP.out.cell hlt
      have HP2 : Hid (Pg (wr.setCell ⟨w.heap.size, i, none⟩ (.int .u8 (shX n i).toNat)) w.heap.size (shL n (i + 1))) := by
        show Pg _ _ _
        rw [← shL_succ n hlt]
        exact HP.out.set i _
      have HE : Hid (wrap64 (n * ((i : Int) / 100 + 1)) % 256 = ((shX n i).toNat : Int)) := sh_eq n i
      go_wp2
      rw [HE.out]
      go_roundw
      case rel => exact ⟨i + 1, by go_num, by omega, HP2, HB.out.setCell (p := ⟨w.heap.size, i, none⟩) (Nat.le_refl _) _⟩
      case measure => simp [intOf]; omega
    · obtain rfl : i = 1024 := by omega
      have ht := HP.out.text
      go_wp2
      go_ret
      exact ⟨rfl, HB.out⟩
end Go.Proofs.YtfjkockcgddgbaaGreat

namespace Go.Proofs.YtfjkockcgddgbaaGreat
open Go.RowKit Go.Lib Go.Maps
attribute [local go_sem ↓] Go.wp_at_zero Go.wp_at_succ
theorem zeroS (w : World) : (zeroValue 9).run Tryz.prog w = .ok (.string ⟨#[]⟩) w := by kernel_rfl
/- block b is a map of texts that holds F, of at most n entries -/
def MS (X : World) (b n : Nat) (F : Int → Option ByteArray) : Prop := ∃ D : DataW Unit, X.ownsMap Tryz.prog 3 (plainElem Tryz.prog 9) b n D ∧ ∀ x, i64 x → (Maps.has D (.int .i64 x) = (F x).isSome ∧ ∀ v, F x = some v → ∀ z, D.atKey (.int .i64 x) z = .lit (.string v.data.toList))
def updS (F : Int → Option ByteArray) (k : Int) (v : ByteArray) : Int → Option ByteArray := fun x => if x = k then some v else F x
theorem MS.lt {X : World} {b n : Nat} {F : Int → Option ByteArray} (h : MS X b n F) : b < X.heap.size := by obtain ⟨D, h, -⟩ := h; exact h.lt
theorem MS.mono {X : World} {b n m : Nat} {F : Int → Option ByteArray} (h : MS X b n F) (hn : n ≤ m) : MS X b m F := by obtain ⟨D, h, k⟩ := h; exact ⟨D, h.mono hn, k⟩
theorem MS.keep {X Y : World} {b n : Nat} {F : Int → Option ByteArray} (h : MS X b n F) (e : Y.heap[b]? = X.heap[b]?) : MS Y b n F := by
  obtain ⟨D, ⟨es, clock, hb, r⟩, k⟩ := h
  exact ⟨D, ⟨es, clock, e.trans hb, r⟩, k⟩
theorem MS.isMap {X : World} {b n : Nat} {F : Int → Option ByteArray} (h : MS X b n F) : ∃ es clock, X.heap[b]? = some (.map es clock) := by
  obtain ⟨D, ⟨es, clock, hb, r⟩, k⟩ := h
  exact ⟨es, clock, hb⟩
theorem MS.far {X : World} {b n : Nat} {F : Int → Option ByteArray} (h : MS X b n F) (T : TypeId → Bool) : farT T X b := fun cur e fz he => by
  obtain ⟨es, clock, hb⟩ := h.isMap
  rw [hb] at he
  cases he
theorem MS.congr {X : World} {b n : Nat} {F F' : Int → Option ByteArray} (h : MS X b n F) (he : ∀ x, i64 x → F' x = F x) : MS X b n F' := by
  obtain ⟨D, ho, k⟩ := h
  exact ⟨D, ho, fun x hx => by rw [he x hx]; exact k x hx⟩
theorem MS.made (X : World) : MS (X.alloc (.map #[] 0)) X.heap.size 0 (fun _ => none) :=
  ⟨.map [], World.ownsMap_made X _ _ _, fun _ _ => ⟨rfl, fun v h => by cases h⟩⟩
theorem MS.look {X : World} {b n : Nat} {F : Int → Option ByteArray} (h : MS X b n F) {x : Int} (hx : i64 x) :
    (Instr.lookup 64 (.map (some b)) (.int .i64 x) true).run Tryz.prog X = .ok (.tuple #[.string ((F x).getD ⟨#[]⟩), .bool (F x).isSome]) X := by
  obtain ⟨D, h, k⟩ := h
  obtain ⟨k1, k2⟩ := k x hx
  obtain ⟨v, ps, hrun, hR⟩ := h.look_ok lawI Tryz.underlying64 (zeroS X) (plainElem_string (H := Unit) Tryz.underlying9 (by decide)) (keyOf_int_mk Tryz.underlying3 hx)
  obtain ⟨c, rfl, hc, -⟩ := plainElem_string_inv Tryz.underlying9 hR
  simp only [Prod.mk.injEq] at hc
  rw [hrun, k1]
  cases hF : F x with
  | none =>
    rw [hF] at k1
    rw [atKey_of_not_has k1] at hc
    have e : c = ⟨#[]⟩ := by
      have := hc.1
      simp at this
      cases c
      simp at this
      rw [this]
    simp [e]
  | some v =>
    rw [k2 v hF] at hc
    have e : c = v := by
      have := hc.1
      simp at this
      exact ll_inj (by unfold ll; rw [this])
    simp [e]
theorem MS.put {X : World} {b n : Nat} {F : Int → Option ByteArray} (h : MS X b n F) (hn : n ≤ 1000000) {x : Int} {v : ByteArray} (hx : i64 x) (hv : v.size ≤ 1048576) :
    ∃ Y, (Instr.mapUpdate 64 (.map (some b)) (.int .i64 x) (.string v)).run Tryz.prog X = .ok () Y ∧ MS Y b (n + 1) (updS F x v) ∧ X.grownBy Y (some b) := by
  obtain ⟨D, h, k⟩ := h
  obtain ⟨Y, hrun, hY, hg⟩ := h.update lawI Tryz.underlying64 (by unfold maxLen; omega) (keyOf_int_mk Tryz.underlying3 hx) (plainElem_string (H := Unit) (s := v) Tryz.underlying9 (by unfold maxLen; omega))
  refine ⟨Y, hrun, ⟨_, hY, fun y hy => ?_⟩, hg⟩
  unfold updS
  by_cases e : y = x
  · subst e
    rw [if_pos rfl]
    refine ⟨has_put_same h.isMap (keyLit _) _, fun u hu z => ?_⟩
    obtain rfl : v = u := by simpa using hu
    exact atKey_put_same h.isMap (keyLit _) _ z
  · have ne : Lit.int .i64 y ≠ Lit.int .i64 x := fun h => by injection h with _ h; exact e h
    rw [if_neg e, has_put_other ne]
    exact ⟨(k y hy).1, fun u hu z => by rw [atKey_put_other ne]; exact (k y hy).2 u hu z⟩
/- with: F, but s at n -/
def wth (F : Int → Option ByteArray) (n : Int) (s : ByteArray) : Int → Option ByteArray := updS F n s
def wthL (F : Int → Option ByteArray) (n : Int) (s : ByteArray) (left : Lit → Bool) : Int → Option ByteArray := fun x => if x = n then some s else if left (.int .i64 x) = true then none else F x
set_option maxRecDepth 100000 in
set_option maxHeartbeats 1000000 in
theorem cwith (b N : Nat) (F : Int → Option ByteArray) (n : Int) (s : ByteArray) (X : World) (h : MS X b N F) (hN : N ≤ 100000) (hn : i64 n) (hs : s.size ≤ 1048576) (hF : ∀ x v, F x = some v → v.size ≤ 1048576) :
    Calls Tryz.prog 35 #[.map (some b), .int .i64 n, .string s] X fun e w' => e = .returned (.map (some X.heap.size)) ∧ MS w' X.heap.size (N + 1) (wth F n s) ∧ Below X.heap.size X w' := by
  obtain ⟨DF, hown, HK⟩ := h
  have hbl := hown.lt
  have HKK : Hid _ := HK
  have hmm := @run_makeMap Tryz.prog
  have e1 : (X.alloc (.map #[] 0)).heap.size = X.heap.size + 1 := by simp
  obtain ⟨Y, hrun, hMY, hgY⟩ := (MS.made X).put (by omega) hn hs
  clear HK
  go_enter Tryz.func35, Tryz.ntmps35
  have hownY : Y.ownsMap Tryz.prog 3 (plainElem Tryz.prog 9) b N DF := (hown.alloc _).kept hgY (fun e => by injection e with e; omega)
  have HBY : Hid (Below X.heap.size X Y) := ⟨hgY.os, hgY.tape, hgY.output, Nat.le_trans (by simp) hgY.size, fun i hi => (hgY.block i (by simp; omega) (fun e => by injection e with e; omega)).trans (heap_alloc_old X _ hi)⟩
  have hXY : Hid (X.heap.size < Y.heap.size) := hMY.lt
  have HMY : Hid (MS Y X.heap.size (0 + 1) (updS (fun _ => none) n s)) := hMY
  have hsz := hown.size_le
  clear hgY hMY
  go_wp2_with (first
    | (at_range; refine wpList_range_own _ rfl _ 64 rfl 3 9 lawI Tryz.underlying64 _ b N _ rfl hownY ?_; intro w0 hrg0 hg0 hs0)
    | go_in)
  go_frame
  have HM0 : Hid (MS w0 X.heap.size 1 (wthL F n s (Maps.has DF))) := by
    refine MS.congr (HMY.out.keep (hg0.block _ HMY.out.lt (by simp))) (fun x hx => ?_)
    have k := (HKK.out x hx).1
    unfold wthL updS
    by_cases e : x = n
    · rw [if_pos e, if_pos e]
    · rw [if_neg e, if_neg e]
      cases hq : F x with
      | none => split <;> rfl
      | some v => rw [k, hq]; rfl
  have HB0 : Hid (Below X.heap.size X w0) := HBY.out.trans (Below.mono ⟨hg0.os, hg0.tape, hg0.output, hg0.size, fun i hi => hg0.block i hi (by simp)⟩ (Nat.le_of_lt hXY.out))
  clear hg0 hs0 hrun hmm HMY HBY
  go_loopw [8] (fun _ wr => ∃ (left : Lit → Bool) (cnt M : Nat), wr.ranges Tryz.prog 3 (plainElem Tryz.prog 9) b Y.heap.size N DF left cnt ∧ M + cnt ≤ N + 1 ∧ Hid (∀ x, i64 x → left (.int .i64 x) = true → Maps.has DF (.int .i64 x) = true) ∧ Hid (MS wr X.heap.size M (wthL F n s left)) ∧ Hid (Below X.heap.size X wr)) (fun _ wr => wr.rangeLeft b Y.heap.size)
  case atStart => exact ⟨_, _, 1, hrg0, by omega, fun x _ h => h, HM0, HB0⟩
  case round =>
    obtain ⟨left, cnt, M, hrg, hM, HLF, HMr, HBr⟩ := hrel
    have hne1 : ¬ Y.heap.size = X.heap.size := by have := hXY.out; omega
    go_wp2_with (first
      | (at_next; refine wpList_next_ranges_is _ rfl _ rfl 3 9 .i64 lawI Tryz.underlying3 Tryz.underlying9 b Y.heap.size N _ _ _ rfl hrg ?_ ?_)
      | go_in)
    · intro hc0 hl0
      go_wp2
      go_ret
      refine ⟨rfl, (HMr.out.mono (by omega)).congr (fun x _ => ?_), HBr.out⟩
      unfold wth wthL updS
      rw [hl0, if_neg (show ¬ (false = true) by decide)]
    · intro x c w5 cnt1 hwx hwc hlx hat hrg1 hlt hg1 hs1 hen
      have HX : Hid (F x = some c) := by
        show F x = some c
        have k := HKK.out x hwx
        rw [HLF.out x hwx hlx] at k
        cases hq : F x with
        | none => rw [hq] at k; cases k.1
        | some v =>
          have := (k.2 v hq .nil).symm.trans (hat .nil)
          simp at this
          exact congrArg some (ll_inj (by unfold ll; rw [this]))
      have HM5 : Hid (MS w5 X.heap.size M (wthL F n s left)) := HMr.out.keep (hg1.block _ HMr.out.lt (fun e => by injection e with e; exact hne1 e.symm))
      have HB5 : Hid (Below X.heap.size X w5) := ⟨hg1.os.trans HBr.out.os, hg1.tape.trans HBr.out.tape, hg1.output.trans HBr.out.output, Nat.le_trans HBr.out.size hg1.size, fun i hi => (hg1.block i (Nat.lt_of_lt_of_le hi HBr.out.size) (fun e => by injection e with e; have := hXY.out; omega)).trans (HBr.out.block i hi)⟩
      by_cases hxn : x = n
      · subst hxn
        have HS : Hid (MS w5 X.heap.size M (wthL F x s (fun z => left z && !z.sameKey (.int .i64 x)))) := HM5.out.congr (fun y _ => by
          unfold wthL
          by_cases e : y = x
          · rw [if_pos e, if_pos e]
          · rw [if_neg e, if_neg e]
            have : (Lit.int .i64 y).sameKey (.int .i64 x) = false := sameKey_ne (fun h => by injection h with _ h; exact e h)
            show (if (left (.int .i64 y) && !(Lit.int .i64 y).sameKey (.int .i64 x)) = true then none else F y) = _
            rw [this, Bool.not_false, Bool.and_true])
        go_wp2
        go_roundw
        case rel => exact ⟨_, cnt1, M, hrg1, by omega, fun y hy h => HLF.out y hy (by simp at h; exact h.1), HS, HB5⟩
        case measure => rw [hrg1.left_eq, hrg.left_eq]; exact hlt
      · have hxn' : (x != n) = true := by simpa using hxn
        obtain ⟨Z, hrun, hMZ, hgZ⟩ := HM5.out.put (by omega) hwx (hF x c HX.out)
        have HS : Hid (MS Z X.heap.size (M + 1) (wthL F n s (fun z => left z && !z.sameKey (.int .i64 x)))) := hMZ.congr (fun y _ => by
          unfold wthL updS
          by_cases e : y = x
          · rw [if_pos e, if_neg (by rw [e]; exact hxn), e, HX.out]
            exact if_neg (by simp [Lit.sameKey])
          · rw [if_neg e]
            have : (Lit.int .i64 y).sameKey (.int .i64 x) = false := sameKey_ne (fun h => by injection h with _ h; exact e h)
            show (if y = n then some s else if (left (.int .i64 y) && !(Lit.int .i64 y).sameKey (.int .i64 x)) = true then none else F y) = _
            rw [this, Bool.not_false, Bool.and_true])
        have hrg2 := hrg1.kept hgZ (fun e => by injection e with e; omega) (fun e => by injection e with e; exact hne1 e)
        have HBZ : Hid (Below X.heap.size X Z) := ⟨hgZ.os.trans HB5.out.os, hgZ.tape.trans HB5.out.tape, hgZ.output.trans HB5.out.output, Nat.le_trans HB5.out.size hgZ.size, fun i hi => (hgZ.block i (Nat.lt_of_lt_of_le hi HB5.out.size) (fun e => by injection e with e; omega)).trans (HB5.out.block i hi)⟩
        clear hMZ hgZ
        go_wp2
        go_roundw
        case rel => exact ⟨_, cnt1, M + 1, hrg2, by omega, fun y hy h => HLF.out y hy (by simp at h; exact h.1), HS, HBZ⟩
        case measure => rw [hrg2.left_eq, hrg.left_eq]; exact hlt
end Go.Proofs.YtfjkockcgddgbaaGreat

namespace Go.Proofs.YtfjkockcgddgbaaGreat
open Go.RowKit Go.Lib Go.Maps Go.Sort Go.Shelf
attribute [local go_sem ↓] Go.wp_at_zero Go.wp_at_succ
/- page n of the log is as the map says -/
def hasA (L : LS) (S : DS) (F : Int → Option ByteArray) (n : Int) : Bool :=
  match F n with
  | some t => decide ((rdL L S n).2 = 0 ∧ (rdL L S n).1 = t)
  | none => decide ((rdL L S n).2 = 0 → (rdL L S n).1 = ⟨blank.toArray⟩)
theorem str_ne {a b : ByteArray} (h : ¬ a = b) : (a.toList == b.toList) = false := by
  rw [beq_eq_false_iff_ne]
  intro e
  apply h
  rw [Lib.toList_data, Lib.toList_data] at e
  exact ByteArray.ext (Array.toList_inj.1 e)
theorem has_more {L : LS} {S : DS} {F : Int → Option ByteArray} {i : Nat} (h : ∀ j < i, hasA L S F j = true) (hi : hasA L S F i = true) : ∀ j < i + 1, hasA L S F j = true := fun j hj => by
  by_cases e : j = i
  · subst e; exact hi
  · exact h j (by omega)
theorem has_less {L : LS} {S : DS} {F : Int → Option ByteArray} {i : Nat} (hlt : i < 6) (hi : hasA L S F i = false) : ((List.range 6).all fun n => hasA L S F n) = false := by
  rw [List.all_eq_false]
  exact ⟨i, List.mem_range.2 hlt, by simp [hi]⟩
end Go.Proofs.YtfjkockcgddgbaaGreat

namespace Go.Proofs.YtfjkockcgddgbaaGreat
open Go.RowKit Go.Lib Go.Maps Go.Sort Go.Shelf
attribute [local go_sem ↓] Go.wp_at_zero Go.wp_at_succ
def newD : DS := ⟨fun _ => [], [], -1, 0, false⟩
def txtF (S : DS) (i : Nat) : ByteArray := ⟨(S.lb (2 * i)).toArray⟩
/- the bytes of the first files of a disk, on a new one -/
def mv (S : DS) : Nat → DS
  | 0 => newD
  | i + 1 => (synD (opD (mv S i) i 0 (txtF S i) false).2 i).2
theorem ask0 {f n : Int} (hf : f = 0 ∨ f = 1) (h0 : 0 ≤ n) (h1 : n ≤ 67108864) : askE f 0 n false = 0 := by
  have : fitsD f 0 n := by
    unfold fitsD
    rcases hf with rfl | rfl <;> simp <;> omega
  unfold askE
  rw [if_pos this]
  rfl
structure Mv (S : DS) (i : Nat) : Prop where
  down : (mv S i).down = false
  left : (mv S i).left = -1
  ok : okS (mv S i) (2 * i)
theorem mv_op {T : DS} (hd : T.down = false) (hl : T.left = -1) (f : Nat) (hf : f < 2) (t : ByteArray) (ht : t.size ≤ 67108864) : ∃ T1 T2, opD T f 0 t false = (0, T1) ∧ synD T1 f = (0, T2) ∧ T2.down = false ∧ T2.left = -1 := by
  have hf' : (f : Int) = 0 ∨ (f : Int) = 1 := by omega
  have h1 : opD T f 0 t false = (0, (opD T f 0 t false).2) ∧ (opD T f 0 t false).2.down = false ∧ (opD T f 0 t false).2.left = -1 := by
    unfold opD
    rw [hd, if_pos (ask0 hf' (by omega) (by omega)), hl, if_neg (by decide)]
    exact ⟨rfl, rfl, rfl⟩
  obtain ⟨h1, hd1, hl1⟩ := h1
  have h2 : synD (opD T f 0 t false).2 f = (0, (synD (opD T f 0 t false).2 f).2) ∧ (synD (opD T f 0 t false).2 f).2.down = false ∧ (synD (opD T f 0 t false).2 f).2.left = -1 := by
    generalize (opD T f 0 t false).2 = T1 at *
    unfold synD
    rw [hd1, if_pos (ask0 hf' (by omega) (by omega)), hl1, if_neg (by decide)]
    exact ⟨rfl, rfl, rfl⟩
  exact ⟨_, _, h1, h2.1, h2.2.1, h2.2.2⟩
theorem mv_ok (S : DS) (hs : ∀ i < 4, (S.lb i).length ≤ 67108864) : ∀ i ≤ 2, Mv S i
  | 0, _ => ⟨rfl, rfl, ⟨by show (_ ≤ (-1 : Int) ∧ (-1 : Int) ≤ _); omega, Int.le_refl _, Int.le_refl _, Nat.le_refl _⟩⟩
  | i + 1, hi => by
    have h := mv_ok S hs i (by omega)
    obtain ⟨T1, T2, h1, h2, h3, h4⟩ := mv_op h.down h.left i (by omega) (txtF S i) (by show ((S.lb (2 * i)).toArray).size ≤ _; rw [List.size_toArray]; exact hs (2 * i) (by omega))
    have e : mv S (i + 1) = T2 := by show (synD (opD (mv S i) i 0 (txtF S i) false).2 i).2 = _; rw [h1, h2]
    have o1 := opD_ok h.ok i 0 (txtF S i) false
    rw [h1] at o1
    have o2 := synD_ok o1 i
    rw [h2] at o2
    exact ⟨by rw [e]; exact h3, by rw [e]; exact h4, by rw [e]; exact okS_up o2 (by omega)⟩
set_option maxRecDepth 20000 in
set_option maxHeartbeats 1000000 in
theorem cmoved (X : World) (B D : Nat) (S : DS) (h : PDs X B D S) (hd : S.down = false) :
    Calls Tryz.prog 43 #[(.pointer (some ⟨D, 0, none⟩))] X fun e w' => e = .returned (.pointer (some ⟨X.heap.size, 0, none⟩)) ∧ PDs w' X.heap.size X.heap.size (mv S 2) ∧ Below X.heap.size X w' := by
  have HP : Hid (PDs X B D S) := h
  have HL : Hid (∀ i < 4, (S.lb i).length ≤ 67108864) := h.len
  have HD : Hid (S.down = false) := hd
  clear h hd
  go_enter Tryz.func43, Tryz.ntmps43
  go_wp2_with fail
  refine (cnew X).mono ?_
  rintro e w1 ⟨rfl, hp1, hb1⟩
  have HP1 : Hid (PDs w1 X.heap.size X.heap.size (mv S 0)) := ⟨_, _, hp1⟩
  have HB1 : Hid (Below X.heap.size X w1) := hb1
  clear hp1 hb1
  go_wp2_with fail
  go_loopw [4] (fun u Y => ∃ i : Nat, u = .int .i64 i ∧ i ≤ 2 ∧ Hid (PDs Y X.heap.size X.heap.size (mv S i)) ∧ Hid (Below X.heap.size X Y)) (fun u _ => 2 - (intOf u).toNat)
  case atStart => exact ⟨0, rfl, Nat.zero_le _, HP1, HB1⟩
  case round =>
    clear HP1 HB1
    obtain ⟨i, rfl, hi, HP1, HB1⟩ := hrel
    by_cases hlt : i < 2
    · have k1 : (i : Int) < 2 := by omega
      have hf : (i : Int) = 0 ∨ (i : Int) = 1 := by omega
      have hL := HL.out (2 * i) (by omega)
      have hM := mv_ok S HL.out i (by omega)
      have HM : Hid (Mv S i) := hM
      obtain ⟨T1, T2, h1, h2, h3, h4⟩ := mv_op hM.down hM.left i (by omega) (txtF S i) (by show ((S.lb (2 * i)).toArray).size ≤ _; rw [List.size_toArray]; exact hL)
      have hE : mv S (i + 1) = T2 := by show (synD (opD (mv S i) i 0 (txtF S i) false).2 i).2 = _; rw [h1, h2]
      have HE : Hid (mv S (i + 1) = T2) := hE
      have H1 : Hid (opD (mv S i) i 0 (txtF S i) false = (0, T1)) := h1
      have H2 : Hid (synD T1 i = (0, T2)) := h2
      have HO1 : Hid (okS T1 (2 * i + 1)) := by
        have := opD_ok hM.ok i 0 (txtF S i) false
        rw [h1] at this
        exact this
      obtain ⟨n, hn⟩ : ∃ n : Int, n = ((S.lb (2 * i)).length : Int) := ⟨_, rfl⟩
      have HS : Hid (sizV i S.lb S.down = n ∧ askE i 0 0 S.down = 0) := by
        have a0 : askE (i : Int) 0 0 S.down = 0 := by rw [HD.out]; exact ask0 hf (by omega) (by omega)
        refine (⟨?_, a0⟩ : _ ∧ _)
        unfold sizV
        rw [if_pos a0, Int.toNat_natCast, hn]
      have HR : Hid (rdS i 0 n S.lb S.down = txtF S i ∧ rdE i 0 n S.lb S.down = 0) := by
        have a0 : askE (i : Int) 0 n S.down = 0 := by rw [HD.out]; exact ask0 hf (by omega) (by omega)
        have a1 : rdE (i : Int) 0 n S.lb S.down = 0 := by
          unfold rdE
          rw [if_pos a0, Int.toNat_natCast, if_neg (by omega)]
        refine (⟨?_, a1⟩ : _ ∧ _)
        unfold rdS
        rw [if_pos a1, Int.toNat_natCast, hn]
        show _ = (⟨(S.lb (2 * i)).toArray⟩ : ByteArray)
        simp
      clear hn hE h1 h2 h3 h4 hM hL
      have HPo : Hid (PDs wr B D S) := HP.out.below HB1.out
      go_wp2_with fail
      refine (csizeD i _ B D S HPo.out).mono ?_
      rw [HS.out.1, HS.out.2]
      rintro e1 w2 ⟨rfl, hw2⟩
      rw [hw2]
      clear hw2
      go_wp2_with fail
      refine (creadD i 0 n _ B D S HPo.out).mono ?_
      rw [HR.out.1, HR.out.2]
      rintro e1 w3 ⟨rfl, hw3⟩
      rw [hw3]
      clear hw3
      go_wp2_with fail
      refine (cwriteD i 0 (txtF S i) _ X.heap.size X.heap.size (mv S i) (2 * i) HP1.out HB1.out.size HM.out.ok (by omega)).mono ?_
      rw [H1.out]
      rintro e1 w4 ⟨rfl, hp4, hb4⟩
      have HP4 : Hid (PDs w4 X.heap.size X.heap.size T1) := hp4
      have HB4 : Hid (Below X.heap.size X w4) := HB1.out.trans hb4.toBelow
      clear hp4 hb4
      go_wp2_with fail
      refine (csyncD i _ X.heap.size X.heap.size T1 (2 * i + 1) HP4.out HB4.out.size HO1.out (by omega)).mono ?_
      rw [H2.out]
      rintro e1 w5 ⟨rfl, hp5, hb5⟩
      have HP5 : Hid (PDs w5 X.heap.size X.heap.size (mv S (i + 1))) := by
        show PDs _ _ _ _
        rw [HE.out]
        exact hp5
      have HB5 : Hid (Below X.heap.size X w5) := HB4.out.trans hb5.toBelow
      clear hp5 hb5
      go_wp2
      go_roundw
      case rel => exact ⟨i + 1, by go_num, by omega, HP5, HB5⟩
      case measure => simp [intOf]; omega
    · obtain rfl : i = 2 := by omega
      go_wp2
      go_ret
      exact ⟨rfl, HP1.out, HB1.out⟩
end Go.Proofs.YtfjkockcgddgbaaGreat

namespace Go.Proofs.YtfjkockcgddgbaaGreat
open Go.RowKit Go.Lib
attribute [local go_sem ↓] Go.wp_at_zero Go.wp_at_succ
set_option maxRecDepth 20000 in
set_option maxHeartbeats 1000000 in
theorem kshort (a : Option Addr) (n c : Nat) (w : World) (hn : n ≤ 140737488355328) (hc : n ≤ c) (ha : a = none → n = 0 ∧ c = 0) :
    Calls Tryz.prog 33 #[.slice a n c] w fun e w' => e = .returned (.slice a (min n 250) c) ∧ w' = w := by
  by_cases h : n ≤ 250
  · rw [Nat.min_eq_left h]
    have h' : (n : Int) ≤ 250 := by omega
    go_enter Tryz.func33, Tryz.ntmps33
    go_wp2_with fail
    go_ret
    exact ⟨by show Ending.returned (Value.slice a (min (n : Int) 250).toNat c) = _; rw [show (min (n : Int) 250).toNat = n by omega], rfl⟩
  · rw [Nat.min_eq_right (by omega)]
    have h' : ¬ (n : Int) ≤ 250 := by omega
    have h2 : (250 : Int) ≤ (c : Int) := by omega
    cases a with
    | none => have := ha rfl; omega
    | some ad =>
      clear ha
      go_enter Tryz.func33, Tryz.ntmps33
      go_wp2_with fail
      go_ret
      exact ⟨by show Ending.returned (Value.slice (some ad) (min (n : Int) 250).toNat c) = _; rw [show (min (n : Int) 250).toNat = 250 by omega], rfl⟩
theorem cnewD (X : World) : Calls Tryz.prog 5 #[] X fun e w' => e = .returned (.pointer (some ⟨X.heap.size, 0, none⟩)) ∧ PDs w' X.heap.size X.heap.size newD ∧ Below X.heap.size X w' := by
  refine (cnew X).mono ?_
  rintro e w ⟨h1, h2, h3⟩
  exact ⟨h1, ⟨_, _, h2⟩, h3⟩
theorem cfailD (n : Int) (X : World) (B D : Nat) (S : DS) (h : PDs X B D S) : Calls Tryz.prog 22 #[(.pointer (some ⟨D, 0, none⟩)), .int .i64 n] X fun e w' => e = .returned (.tuple #[]) ∧ PDs w' B D { S with left := n } ∧ BelT tyP B X w' := by
  obtain ⟨vb, vw, h⟩ := h
  refine (cfail n X B D vb vw S.lb S.ws S.left S.count S.down h).mono ?_
  rintro e w ⟨h1, h2, h3⟩
  exact ⟨h1, ⟨_, _, h2⟩, h3⟩
theorem cdownD (X : World) (B D : Nat) (S : DS) (h : PDs X B D S) : Calls Tryz.prog 26 #[(.pointer (some ⟨D, 0, none⟩))] X fun e w' => e = .returned (.bool S.down) ∧ w' = X := by
  obtain ⟨vb, vw, h⟩ := h
  exact cdown X B D vb vw S.lb S.ws S.left S.count S.down h
/- what a crash leaves of a disk -/
def crD (fa : Nat → Int) (S : DS) : DS := ⟨cpL (crL fa S.ws S.lb S.ws.length) 2, [], -1, S.count, false⟩
theorem ccrashD (a : Option Addr) (n cap : Nat) (fk : Nat → Int) (X : World) (B D m : Nat) (S : DS) (h : PDs X B D S) (hB : B ≤ X.heap.size) (ho : okS S m) (hm : m ≤ 1000000) (hn : n ≤ 140737488355328) (hk : liesI tyP X B a n fk) :
    Calls Tryz.prog 24 #[(.pointer (some ⟨D, 0, none⟩)), .slice a n cap] X fun e w' => e = .returned (.tuple #[]) ∧ PDs w' B D (crD (fateI n fk) S) ∧ BelT tyP B X w' := by
  obtain ⟨vb, vw, h⟩ := h
  refine (ccrash a n cap fk X B D vb vw S.lb S.ws S.left S.count S.down h hB (Nat.le_trans ho.2.2.2 hm) hn hk).mono ?_
  rintro e w ⟨h1, ⟨vb', h2⟩, h3⟩
  exact ⟨h1, ⟨_, _, h2⟩, h3⟩
theorem onL_new (t : ByteArray) : onL 0 t false [] = ll t := by
  unfold onL fil
  simp
theorem op_up {lb : Nat → List UInt8} {ws : List Chg} {c f : Int} {t : ByteArray} (hf : f = 0 ∨ f = 1) (ht : (t.size : Int) ≤ 67108864) : opD ⟨lb, ws, -1, c, false⟩ f 0 t false = (0, ⟨updF lb (2 * f.toNat) (onL 0 t false (lb (2 * f.toNat))), ws ++ [⟨f.toNat, 0, t, false⟩], -1, c + 1, false⟩) := by
  unfold opD
  dsimp only
  rw [if_pos (ask0 hf (by omega) ht), if_neg (show ¬ (-1 : Int) = 0 by decide)]
  rfl
theorem syn_up {lb : Nat → List UInt8} {ws : List Chg} {c f : Int} (hf : f = 0 ∨ f = 1) : synD ⟨lb, ws, -1, c, false⟩ f = (0, ⟨updF lb (2 * f.toNat + 1) (foldF f.toNat ws (lb (2 * f.toNat + 1))), othF f.toNat ws, -1, c + 1, false⟩) := by
  unfold synD
  dsimp only
  rw [if_pos (ask0 hf (by omega) (by omega)), if_neg (show ¬ (-1 : Int) = 0 by decide)]
  rfl
theorem mv_two (S : DS) (hs : ∀ i < 4, (S.lb i).length ≤ 67108864) : (mv S 2).lb 0 = S.lb 0 ∧ (mv S 2).lb 1 = S.lb 0 ∧ (mv S 2).lb 2 = S.lb 2 ∧ (mv S 2).lb 3 = S.lb 2 ∧ (mv S 2).ws = [] := by
  have s0 : ((txtF S 0).size : Int) ≤ 67108864 := by show (((S.lb 0).toArray.size : Nat) : Int) ≤ _; rw [List.size_toArray]; have := hs 0 (by decide); omega
  have s1 : ((txtF S 1).size : Int) ≤ 67108864 := by show (((S.lb 2).toArray.size : Nat) : Int) ≤ _; rw [List.size_toArray]; have := hs 2 (by decide); omega
  have e1 : mv S 1 = ⟨updF (updF (fun _ => []) 0 (S.lb 0)) 1 (S.lb 0), [], -1, 2, false⟩ := by
    show (synD (opD newD 0 0 (txtF S 0) false).2 0).2 = _
    rw [show opD newD 0 0 (txtF S 0) false = opD ⟨fun _ => [], [], -1, 0, false⟩ 0 0 (txtF S 0) false from rfl, op_up (.inl rfl) s0, syn_up (.inl rfl)]
    have e : onL 0 (txtF S 0) false [] = S.lb 0 := by rw [onL_new]; rfl
    simp [foldF, othF, updF, e]
  have e2 : mv S 2 = ⟨updF (updF (updF (updF (fun _ => []) 0 (S.lb 0)) 1 (S.lb 0)) 2 (S.lb 2)) 3 (S.lb 2), [], -1, 4, false⟩ := by
    show (synD (opD (mv S 1) 1 0 (txtF S 1) false).2 1).2 = _
    rw [e1]
    rw [op_up (.inr rfl) s1, syn_up (.inr rfl)]
    have e : onL 0 (txtF S 1) false [] = S.lb 2 := by rw [onL_new]; rfl
    simp [foldF, othF, updF, e]
  rw [e2]
  simp [updF]
end Go.Proofs.YtfjkockcgddgbaaGreat

namespace Go.Proofs.YtfjkockcgddgbaaGreat
theorem onL_take {p a : Nat} {t : ByteArray} {l : List UInt8} (hp : a ≤ p) (hl : a ≤ l.length) : (onL p t false l).take a = l.take a := by
  unfold onL
  have h1 : a ≤ ((fil l (p + t.size)).take p).length := by rw [List.length_take, fil_len]; omega
  rw [if_neg (by decide), List.append_assoc, List.take_append_of_le_length h1, List.take_take, Nat.min_eq_left hp]
  unfold fil
  rw [List.take_append_of_le_length hl]
theorem onL_ge {p : Nat} {t : ByteArray} {l : List UInt8} : l.length ≤ (onL p t false l).length := by
  rw [onL_len]
  simp
  omega
/- every waiting change writes file 1 alone, at byte a or above -/
def Hi (a : Nat) (ws : List Chg) : Prop := ∀ x ∈ ws, x.f = 1 ∧ x.c = false ∧ a ≤ x.p
theorem Hi.mono {a b : Nat} {ws : List Chg} (h : Hi b ws) (hab : a ≤ b) : Hi a ws := fun x hx => ⟨(h x hx).1, (h x hx).2.1, Nat.le_trans hab (h x hx).2.2⟩
theorem Hi.snoc {a : Nat} {ws : List Chg} (h : Hi a ws) (p : Nat) (t : ByteArray) (hp : a ≤ p) : Hi a (ws ++ [⟨1, p, t, false⟩]) := fun x hx => by
  rcases List.mem_append.1 hx with hx | hx
  · exact h x hx
  · obtain rfl := List.mem_singleton.1 hx
    exact ⟨rfl, rfl, hp⟩
theorem crL_high {a : Nat} {ws : List Chg} (h : Hi a ws) (fa : Nat → Int) (lb : Nat → List UInt8) (ha : a ≤ (lb 3).length) : ∀ i, i ≤ ws.length → (∀ j, ¬ j = 3 → crL fa ws lb i j = lb j) ∧ (crL fa ws lb i 3).take a = (lb 3).take a ∧ (lb 3).length ≤ (crL fa ws lb i 3).length
  | 0, _ => ⟨fun _ _ => rfl, rfl, Nat.le_refl _⟩
  | i + 1, hi => by
    obtain ⟨h1, h2, h3⟩ := crL_high h fa lb ha i (by omega)
    obtain ⟨e1, e2, e3⟩ := h ws[i] (List.getElem_mem _)
    rw [crL_succ (by omega)]
    unfold crS
    rw [e1, e2]
    split
    · refine ⟨fun j hj => by rw [updF_ne _ _ hj]; exact h1 j hj, ?_, ?_⟩
      · rw [updF_at, onL_take e3 (Nat.le_trans ha h3)]; exact h2
      · rw [updF_at]; exact Nat.le_trans h3 onL_ge
    · split
      · refine ⟨fun j hj => by rw [updF_ne _ _ hj]; exact h1 j hj, ?_, ?_⟩
        · rw [updF_at, onL_take e3 (Nat.le_trans ha h3)]; exact h2
        · rw [updF_at]; exact Nat.le_trans h3 onL_ge
      · exact ⟨h1, h2, h3⟩
theorem cp_at (l : Nat → List UInt8) : cpL l 2 0 = l 1 ∧ cpL l 2 1 = l 1 ∧ cpL l 2 2 = l 3 ∧ cpL l 2 3 = l 3 := by
  simp [cpL, updF]
/- behind such a crash the first a bytes of the log, and all pages, are what lasted -/
theorem crD_high {a : Nat} {S : DS} (h : Hi a S.ws) (fa : Nat → Int) (ha : a ≤ (S.lb 3).length) : (crD fa S).lb 0 = S.lb 1 ∧ (crD fa S).lb 1 = S.lb 1 ∧ ((crD fa S).lb 2).take a = (S.lb 3).take a ∧ (crD fa S).lb 3 = (crD fa S).lb 2 ∧ (S.lb 3).length ≤ ((crD fa S).lb 2).length ∧ (crD fa S).ws = [] ∧ (crD fa S).down = false := by
  obtain ⟨h1, h2, h3⟩ := crL_high h fa S.lb ha S.ws.length (Nat.le_refl _)
  obtain ⟨c0, c1, c2, c3⟩ := cp_at (crL fa S.ws S.lb S.ws.length)
  refine ⟨c0.trans (h1 1 (by decide)), c1.trans (h1 1 (by decide)), ?_, c3.trans c2.symm, ?_, rfl, rfl⟩
  · exact (congrArg (List.take a) c2).trans h2
  · exact Nat.le_trans h3 (Nat.le_of_eq (congrArg List.length c2.symm))
end Go.Proofs.YtfjkockcgddgbaaGreat

namespace Go.Proofs.YtfjkockcgddgbaaGreat
theorem fil_take {l : List UInt8} {a n : Nat} (h : a ≤ n) : (fil l n).take a = (fil l a).take a := by
  unfold fil
  rw [List.take_append, List.take_append, List.take_replicate, List.take_replicate]
  congr 2
  omega
theorem onL_fil {p a : Nat} {t : ByteArray} {l : List UInt8} (hp : a ≤ p) : (fil (onL p t false l) a).take a = (fil l a).take a := by
  have hlen : a ≤ (onL p t false l).length := by rw [onL_len]; simp; omega
  rw [fil_le hlen]
  unfold onL
  have h1 : a ≤ ((fil l (p + t.size)).take p).length := by rw [List.length_take, fil_len]; omega
  rw [if_neg (by decide), List.append_assoc, List.take_append_of_le_length h1, List.take_take, Nat.min_eq_left hp]
  exact fil_take (by omega)
theorem crL_pad {a : Nat} {ws : List Chg} (h : Hi a ws) (fa : Nat → Int) (lb : Nat → List UInt8) : ∀ i, i ≤ ws.length → (∀ j, ¬ j = 3 → crL fa ws lb i j = lb j) ∧ (fil (crL fa ws lb i 3) a).take a = (fil (lb 3) a).take a ∧ (lb 3).length ≤ (crL fa ws lb i 3).length ∧ (crL fa ws lb i 3 = lb 3 ∨ a ≤ (crL fa ws lb i 3).length)
  | 0, _ => ⟨fun _ _ => rfl, rfl, Nat.le_refl _, .inl rfl⟩
  | i + 1, hi => by
    obtain ⟨h1, h2, h3, h4⟩ := crL_pad h fa lb i (by omega)
    obtain ⟨e1, e2, e3⟩ := h ws[i] (List.getElem_mem _)
    have step : ∀ t : ByteArray, (∀ j, ¬ j = 3 → updF (crL fa ws lb i) 3 (onL ws[i].p t false (crL fa ws lb i 3)) j = lb j) ∧ (fil (updF (crL fa ws lb i) 3 (onL ws[i].p t false (crL fa ws lb i 3)) 3) a).take a = (fil (lb 3) a).take a ∧ (lb 3).length ≤ (updF (crL fa ws lb i) 3 (onL ws[i].p t false (crL fa ws lb i 3)) 3).length ∧ (updF (crL fa ws lb i) 3 (onL ws[i].p t false (crL fa ws lb i 3)) 3 = lb 3 ∨ a ≤ (updF (crL fa ws lb i) 3 (onL ws[i].p t false (crL fa ws lb i 3)) 3).length) := fun t => by
      refine ⟨fun j hj => by rw [updF_ne _ _ hj]; exact h1 j hj, ?_, ?_, .inr ?_⟩
      · rw [updF_at, onL_fil e3]; exact h2
      · rw [updF_at]; exact Nat.le_trans h3 onL_ge
      · rw [updF_at, onL_len]; simp; omega
    rw [crL_succ (by omega)]
    unfold crS
    rw [e1, e2]
    split
    · exact step _
    · split
      · exact step _
      · exact ⟨h1, h2, h3, h4⟩
/- as crD_high, for a log of any length -/
theorem crD_pad {a : Nat} {S : DS} (h : Hi a S.ws) (fa : Nat → Int) : (crD fa S).lb 0 = S.lb 1 ∧ (crD fa S).lb 1 = S.lb 1 ∧ (fil ((crD fa S).lb 2) a).take a = (fil (S.lb 3) a).take a ∧ (crD fa S).lb 3 = (crD fa S).lb 2 ∧ (S.lb 3).length ≤ ((crD fa S).lb 2).length ∧ ((crD fa S).lb 2 = S.lb 3 ∨ a ≤ ((crD fa S).lb 2).length) := by
  obtain ⟨h1, h2, h3, h4⟩ := crL_pad h fa S.lb S.ws.length (Nat.le_refl _)
  obtain ⟨c0, c1, c2, c3⟩ := cp_at (crL fa S.ws S.lb S.ws.length)
  have e : (crD fa S).lb 2 = crL fa S.ws S.lb S.ws.length 3 := c2
  rw [e]
  exact ⟨c0.trans (h1 1 (by decide)), c1.trans (h1 1 (by decide)), h2, c3, h3, h4⟩
end Go.Proofs.YtfjkockcgddgbaaGreat

namespace Go.Proofs.YtfjkockcgddgbaaGreat
theorem byt_cut {s : ByteArray} {p q i : Nat} (hq : q ≤ s.size) (hi : p + i < q) : bytS (s.extract p q) i = bytS s (p + i) := by
  unfold bytS
  have h1 : i < (s.extract p q).size := by rw [ByteArray.size_extract]; omega
  rw [dif_pos h1, dif_pos (by omega), ByteArray.getElem_extract]
theorem byt_left {a b : ByteArray} {i : Nat} (h : i < a.size) : bytS (a ++ b) i = bytS a i := by
  unfold bytS
  rw [dif_pos (by rw [ByteArray.size_append]; omega), dif_pos h, ByteArray.getElem_append_left h]
theorem byt_right {a b : ByteArray} {i : Nat} : bytS (a ++ b) (a.size + i) = bytS b i := by
  unfold bytS
  by_cases h : i < b.size
  · rw [dif_pos (by rw [ByteArray.size_append]; omega), dif_pos h, ByteArray.getElem_append_right (by omega)]
    congr 2
    omega
  · rw [dif_neg (by rw [ByteArray.size_append]; omega), dif_neg h]
theorem four_num {n : Nat} (h : n < 4294967296) : numB (fourB n) 0 = n := by
  have b0 : bytS (fourB n) 0 = n / 16777216 % 256 := rfl
  have b1 : bytS (fourB n) 1 = n / 65536 % 256 := rfl
  have b2 : bytS (fourB n) 2 = n / 256 % 256 := rfl
  have b3 : bytS (fourB n) 3 = n % 256 := rfl
  unfold numB numK numK numK numK numK
  simp only [Nat.zero_add, b0, b1, b2, b3]
  omega
theorem num_same {a b : ByteArray} {p q : Nat} (h : ∀ i < 4, bytS a (p + i) = bytS b (q + i)) : numB a p = numB b q := by
  unfold numB numK numK numK numK numK
  rw [h 0 (by decide), h 1 (by decide), h 2 (by decide), h 3 (by decide)]
theorem half_num {n f p : Nat} (hn : n < 4294967296) (hf : f < 4294967296) (hp : p < 4294967296) : numB (halfB n f p) 0 = n ∧ numB (halfB n f p) 4 = f ∧ numB (halfB n f p) 8 = p := by
  have s1 : (fourB n ++ fourB f).size = 8 := by rw [ByteArray.size_append]; rfl
  refine ⟨?_, ?_, ?_⟩
  · refine (num_same (b := fourB n) (q := 0) fun i hi => ?_).trans (four_num hn)
    show bytS (fourB n ++ fourB f ++ fourB p) (0 + i) = _
    rw [byt_left (by omega), byt_left (by rw [fourB_size]; omega)]
  · refine (num_same (b := fourB f) (q := 0) fun i hi => ?_).trans (four_num hf)
    show bytS (fourB n ++ fourB f ++ fourB p) ((fourB n).size + i) = _
    rw [byt_left (by rw [s1, fourB_size]; omega), byt_right, Nat.zero_add]
  · refine (num_same (b := fourB p) (q := 0) fun i hi => ?_).trans (four_num hp)
    have e : (8 : Nat) + i = (fourB n ++ fourB f).size + i := by rw [s1]
    show bytS (fourB n ++ fourB f ++ fourB p) (8 + i) = _
    rw [e, byt_right, Nat.zero_add]
theorem txt_num {n f p : Nat} (hn : n < 4294967296) (hf : f < 4294967296) (hp : p < 4294967296) : numB (txtB n f p) 0 = n ∧ numB (txtB n f p) 4 = f ∧ numB (txtB n f p) 8 = p := by
  obtain ⟨h1, h2, h3⟩ := half_num hn hf hp
  have k : ∀ q, q + 4 ≤ 12 → numB (txtB n f p) q = numB (halfB n f p) q := fun q hq => num_same fun i hi => by
    unfold txtB
    rw [byt_left (by rw [halfB_size]; omega)]
  exact ⟨(k 0 (by omega)).trans h1, (k 4 (by omega)).trans h2, (k 8 (by omega)).trans h3⟩
/- a slot that holds a commit's text tells it -/
theorem told_of {head : ByteArray} {q slot size n f p : Nat} (hs : q + 24 ≤ head.size) (h : head.extract q (q + 24) = txtB n f p) (hn : 1 ≤ n ∧ n ≤ 3) (hf : f < 4294967296) (hp : p < 4294967296) (hz : f = 0 ∨ 64 + 1028 * f ≤ size) : toldA head q slot size = ⟨slot, n, f, p⟩ := by
  obtain ⟨h1, h2, h3⟩ := txt_num (n := n) (by omega) hf hp
  have k : ∀ d, d + 4 ≤ 24 → numB head (q + d) = numB (txtB n f p) d := fun d hd => num_same fun i hi => by
    rw [← h, byt_cut hs (by omega), Nat.add_assoc]
  have e0 : numB head q = n := (k 0 (by omega)).trans h1
  have e4 : numB head (q + 4) = f := (k 4 (by omega)).trans h2
  have e8 : numB head (q + 8) = p := (k 8 (by omega)).trans h3
  unfold toldA
  rw [if_neg (by omega), e0, e4, e8, if_neg (fun hh => hh hn), if_neg (fun hh => hh h.symm), if_neg (by omega)]
theorem num_lt (s : ByteArray) (p : Nat) : numB s p < 4294967296 := numK_lt s p 4
theorem txt_second {n f p : Nat} (hn : n < 4294967296) (hf : f < 4294967296) (hp : p < 4294967296) : numB (txtB n f p) 12 = n := by
  obtain ⟨h1, _, _⟩ := half_num hn hf hp
  refine (num_same (b := halfB n f p) (q := 0) fun i hi => ?_).trans h1
  have e : (12 : Nat) + i = (halfB n f p).size + i := by rw [halfB_size]
  unfold txtB
  rw [e, byt_right, Nat.zero_add]
/- what a slot tells is the number in its second half, or nothing -/
theorem told_second (head : ByteArray) (q slot size : Nat) : (toldA head q slot size).number = 0 ∨ ((toldA head q slot size).number = numB head (q + 12) ∧ 1 ≤ numB head (q + 12)) := by
  unfold toldA
  by_cases h1 : head.size < q + 24
  · rw [if_pos h1]; exact .inl rfl
  · rw [if_neg h1]
    by_cases h2 : 1 ≤ numB head q ∧ numB head q ≤ 3
    · rw [if_neg (fun h => h h2)]
      by_cases h3 : txtB (numB head q) (numB head (q + 4)) (numB head (q + 8)) = head.extract q (q + 24)
      · rw [if_neg (fun h => h h3)]
        have k : numB head (q + 12) = numB head q := by
          refine Eq.trans ?_ (txt_second (num_lt head q) (num_lt head (q + 4)) (num_lt head (q + 8)))
          refine num_same fun i hi => ?_
          rw [h3, byt_cut (by omega) (by omega), Nat.add_assoc]
        split
        · exact .inl rfl
        · exact .inr ⟨k.symm, by omega⟩
      · rw [if_pos h3]; exact .inl rfl
    · rw [if_pos h2]; exact .inl rfl
end Go.Proofs.YtfjkockcgddgbaaGreat

namespace Go.Proofs.YtfjkockcgddgbaaGreat
def headP (log : List UInt8) : ByteArray := ⟨((fil log 64).take 64).toArray⟩
theorem headP_size (log : List UInt8) : (headP log).size = 64 := by
  show ((fil log 64).take 64).toArray.size = 64
  rw [List.size_toArray, List.length_take, fil_len]
  omega
theorem headP_long {log : List UInt8} (h : 64 ≤ log.length) : headP log = headB log := by
  unfold headP headB
  rw [fil_le h]
def bL (l : List UInt8) (i : Nat) : UInt8 := (l[i]?).getD 0
theorem bL_fil (l : List UInt8) (n i : Nat) : bL (fil l n) i = bL l i := by
  unfold bL fil
  by_cases h : i < l.length
  · rw [List.getElem?_append_left h]
  · rw [List.getElem?_append_right (by omega), List.getElem?_replicate, List.getElem?_eq_none (by omega)]
    split <;> rfl
theorem headP_byt (log : List UInt8) {i : Nat} (h : i < 64) : bytS (headP log) i = (bL log i).toNat := by
  have hs := headP_size log
  rw [← bL_fil log 64 i]
  unfold bytS bL
  rw [dif_pos (by omega)]
  have hl : i < ((fil log 64).take 64).length := by rw [List.length_take, fil_len]; omega
  show (((fil log 64).take 64).toArray[i]'(by simpa using hl)).toNat = _
  rw [List.getElem_toArray, List.getElem_take, List.getElem?_eq_getElem (by rw [fil_len]; omega)]
  rfl
theorem bytS_ll (t : ByteArray) (i : Nat) : (bL (ll t) i).toNat = bytS t i := by
  unfold bytS bL ll
  by_cases h : i < t.size
  · rw [dif_pos h, List.getElem?_eq_getElem (show i < t.data.toList.length from h)]
    rfl
  · rw [dif_neg h, List.getElem?_eq_none (show t.data.toList.length ≤ i from Nat.le_of_not_lt h)]
    rfl
theorem ext_byt {a b : ByteArray} (hs : a.size = b.size) (h : ∀ i, i < a.size → bytS a i = bytS b i) : a = b := by
  apply ByteArray.ext
  apply Array.ext
  · exact hs
  · intro i h1 h2
    have := h i h1
    unfold bytS at this
    rw [dif_pos (show i < a.size from h1), dif_pos (show i < b.size from h2)] at this
    exact UInt8.toNat_inj.1 this
theorem head_len {log : List UInt8} (h : log.length ≤ 64) : (headB log).size = log.length := by
  show (log.take 64).toArray.size = log.length
  rw [List.size_toArray, List.length_take]
  omega
theorem headB_byt {log : List UInt8} (h : log.length ≤ 64) (i : Nat) : bytS (headB log) i = (bL log i).toNat := by
  rw [← bytS_ll]
  show (bL (log.take 64).toArray.toList i).toNat = _
  rw [List.take_of_length_le h]
theorem pad_byte {log : List UInt8} (h : log.length ≤ 64) (i : Nat) : bytS (headP log) i = bytS (headB log) i := by
  by_cases hi : i < 64
  · rw [headP_byt _ hi, headB_byt h]
  · have h1 := headP_size log
    have h2 := head_len h
    unfold bytS
    rw [dif_neg (by omega), dif_neg (by omega)]
theorem pad_num {log : List UInt8} (h : log.length ≤ 64) (p : Nat) : numB (headP log) p = numB (headB log) p := num_same fun i _ => pad_byte h (p + i)
theorem pad_cut {log : List UInt8} (h : log.length ≤ 64) {a b : Nat} (hb : b ≤ log.length) : (headP log).extract a b = (headB log).extract a b := by
  have h1 := headP_size log
  have h2 := head_len h
  refine ext_byt (by rw [ByteArray.size_extract, ByteArray.size_extract]; omega) fun i hi => ?_
  rw [ByteArray.size_extract] at hi
  rw [byt_cut (by omega) (by omega), byt_cut (by omega) (by omega), pad_byte h]
theorem pad_mark {log : List UInt8} (h : (40 ≤ log.length ∧ log.length ≤ 52) ∨ 64 ≤ log.length) : isMark (headP log) = isMark (headB log) := by
  rcases h with h | h
  · have h2 := head_len (log := log) (by omega)
    unfold isMark
    rw [pad_cut (by omega) (by omega), headP_size, h2]
    congr 1
    exact propext ⟨fun k => ⟨by omega, k.2⟩, fun k => ⟨by omega, k.2⟩⟩
  · rw [headP_long h]
theorem num_far {s : ByteArray} {p : Nat} (h : s.size ≤ p) : numB s p = 0 := by
  have z : ∀ i, bytS s (p + i) = 0 := fun i => by unfold bytS; rw [dif_neg (by omega)]
  unfold numB
  have z0 : bytS s p = 0 := z 0
  simp [numK, z, z0]
theorem told_zero {head : ByteArray} {q slot size : Nat} (h : (toldA head q slot size).number = 0) : toldA head q slot size = cm0 := by
  revert h
  unfold toldA
  split
  · exact fun _ => rfl
  · split
    · exact fun _ => rfl
    · rename_i _ hn
      split
      · exact fun _ => rfl
      · split
        · exact fun _ => rfl
        · intro h
          exact absurd (fun k => by have : numB head q = 0 := h; omega) hn
theorem pad_told {log : List UInt8} (h : (40 ≤ log.length ∧ log.length ≤ 52) ∨ 64 ≤ log.length) {slot : Nat} (hs : slot ≤ 1) (size : Nat) : toldA (headP log) (16 + 24 * slot) slot size = toldA (headB log) (16 + 24 * slot) slot size := by
  rcases h with h | h
  · have h2 := head_len (log := log) (by omega)
    have : slot = 0 ∨ slot = 1 := by omega
    rcases this with rfl | rfl
    · unfold toldA
      rw [pad_num (by omega), pad_num (by omega), pad_num (by omega), pad_cut (by omega) (by omega), if_neg (show ¬ (headP log).size < 16 + 24 * 0 + 24 by rw [headP_size]; omega), if_neg (show ¬ (headB log).size < 16 + 24 * 0 + 24 by rw [h2]; omega)]
    · have e : toldA (headB log) (16 + 24 * 1) 1 size = cm0 := by unfold toldA; rw [if_pos (by rw [h2]; omega)]
      rw [e]
      apply told_zero
      rcases told_second (headP log) (16 + 24 * 1) 1 size with k | ⟨_, k⟩
      · exact k
      · rw [pad_num (by omega), num_far (by rw [h2]; omega)] at k
        omega
  · rw [headP_long h]
end Go.Proofs.YtfjkockcgddgbaaGreat

namespace Go.Proofs.YtfjkockcgddgbaaGreat
structure CurP (log : List UInt8) (c : Cm) : Prop where
  len : (40 ≤ log.length ∧ log.length ≤ 52) ∨ 64 ≤ log.length
  mark : isMark (headP log) = true
  slot : c.slot ≤ 1
  number : 1 ≤ c.number ∧ c.number ≤ 3
  told : ∀ size, c.frames = 0 ∨ 64 + 1028 * c.frames ≤ size → toldA (headP log) (16 + 24 * c.slot) c.slot size = c
  fits : c.frames = 0 ∨ 64 + 1028 * c.frames ≤ log.length
  other : ∀ size, (toldA (headP log) (16 + 24 * (1 - c.slot)) (1 - c.slot) size).number = 0 ∨ nxN (toldA (headP log) (16 + 24 * (1 - c.slot)) (1 - c.slot) size).number = c.number
theorem CurP.last {log : List UInt8} {c : Cm} (h : CurP log c) : lastC log = c := by
  obtain ⟨h0, h1, h2, h3, h4, h5, h6⟩ := h
  have k4 := h4 log.length h5
  have k6 := h6 log.length
  rw [pad_mark h0] at h1
  rw [pad_told h0 h2] at k4
  rw [pad_told h0 (by omega)] at k6
  unfold lastC
  rw [if_pos h1]
  obtain ⟨s, n, f, p⟩ := c
  dsimp only at *
  have hs : s = 0 ∨ s = 1 := by omega
  unfold pickC
  rcases hs with rfl | rfl
  · rw [show (16 : Nat) = 16 + 24 * 0 from rfl, k4]
    dsimp only at *
    rw [if_neg]
    intro hh
    rcases hh with hh | hh
    · omega
    · change _ = nxN n at hh
      have e : (toldA (headB log) (16 + 24 * (1 - 0)) (1 - 0) log.length).number = nxN n := hh
      unfold nxN at e k6
      omega
  · have e : toldA (headB log) 40 1 log.length = ⟨1, n, f, p⟩ := k4
    rw [e]
    refine if_pos ?_
    rcases k6 with k | k
    · exact .inl k
    · exact .inr k.symm
theorem headP_of {log log' : List UInt8} {a : Nat} (ha : 64 ≤ a) (h : (fil log' a).take a = (fil log a).take a) : headP log' = headP log := by
  unfold headP
  have : (fil log' 64).take 64 = (fil log 64).take 64 := by
    have := congrArg (List.take 64) h
    rw [List.take_take, List.take_take, Nat.min_eq_left ha, fil_take ha, fil_take ha] at this
    exact this
  rw [this]
theorem CurP.keep {log log' : List UInt8} {c : Cm} {a : Nat} (h : CurP log c) (ha : 64 ≤ a) (he : (fil log' a).take a = (fil log a).take a) (hl : (40 ≤ log'.length ∧ log'.length ≤ 52) ∨ 64 ≤ log'.length) (hf : c.frames = 0 ∨ 64 + 1028 * c.frames ≤ log'.length) : CurP log' c := by
  have e := headP_of ha he
  exact ⟨hl, by rw [e]; exact h.mark, h.slot, h.number, by rw [e]; exact h.told, hf, by rw [e]; exact h.other⟩
theorem CurP.crash {S : DS} {c : Cm} {a : Nat} (h : CurP (S.lb 3) c) (hw : Hi a S.ws) (fa : Nat → Int) (h64 : 64 ≤ a) : CurP ((crD fa S).lb 2) c ∧ lastC ((crD fa S).lb 2) = c := by
  obtain ⟨_, _, k2, _, k4, k5⟩ := crD_pad hw fa
  have hl : (40 ≤ ((crD fa S).lb 2).length ∧ ((crD fa S).lb 2).length ≤ 52) ∨ 64 ≤ ((crD fa S).lb 2).length := by
    rcases k5 with k | k
    · rw [k]; exact h.len
    · exact .inr (Nat.le_trans h64 k)
  have := h.keep h64 k2 hl (h.fits.imp id fun f => Nat.le_trans f k4)
  exact ⟨this, this.last⟩
end Go.Proofs.YtfjkockcgddgbaaGreat

namespace Go.Proofs.YtfjkockcgddgbaaGreat
theorem curP_of {log : List UInt8} {c : Cm} (hl : (40 ≤ log.length ∧ log.length ≤ 52) ∨ 64 ≤ log.length) (hm : isMark (headP log) = true) (hs : c.slot ≤ 1) (hn : 1 ≤ c.number ∧ c.number ≤ 3) (hf : c.frames < 4294967296) (hp : c.pages < 4294967296)
    (hx : (headP log).extract (16 + 24 * c.slot) (16 + 24 * c.slot + 24) = txtB c.number c.frames c.pages) (hz : c.frames = 0 ∨ 64 + 1028 * c.frames ≤ log.length) (ho : numB (headP log) (16 + 24 * (1 - c.slot) + 12) = 0 ∨ nxN (numB (headP log) (16 + 24 * (1 - c.slot) + 12)) = c.number) : CurP log c := by
  refine ⟨hl, hm, hs, hn, fun size h => told_of (by rw [headP_size]; omega) hx hn hf hp h, hz, fun size => ?_⟩
  rcases told_second (headP log) (16 + 24 * (1 - c.slot)) (1 - c.slot) size with h | ⟨h, h'⟩
  · exact .inl h
  · rcases ho with ho | ho
    · omega
    · rw [h]; exact .inr ho
end Go.Proofs.YtfjkockcgddgbaaGreat

namespace Go.Proofs.YtfjkockcgddgbaaGreat
theorem onL_get (q : Nat) (t : ByteArray) (l : List UInt8) (i : Nat) : bL (onL q t false l) i = if q ≤ i ∧ i < q + t.size then bL (ll t) (i - q) else bL l i := by
  have hF : ((fil l (q + t.size)).take q).length = q := by rw [List.length_take, fil_len]; omega
  have hT : (ll t).length = t.size := rfl
  have hg := bL_fil l (q + t.size)
  unfold onL
  rw [if_neg (by decide), List.append_assoc]
  by_cases h1 : i < q
  · rw [if_neg (by omega), ← hg]
    unfold bL
    rw [List.getElem?_append_left (by omega), List.getElem?_take_of_lt h1]
  · by_cases h2 : i < q + t.size
    · rw [if_pos (by omega)]
      unfold bL
      rw [List.getElem?_append_right (by omega), hF, List.getElem?_append_left (by omega)]
    · rw [if_neg (by omega), ← hg]
      unfold bL
      rw [List.getElem?_append_right (by omega), hF, List.getElem?_append_right (by omega), hT, List.getElem?_drop]
      congr 2
      omega
/- behind a slot's write: the slot's text, the other bytes as they were -/
theorem wr_in {log : List UInt8} {q : Nat} {t : ByteArray} (hq : q + t.size ≤ 64) : (headP (onL q t false log)).extract q (q + t.size) = t := by
  have hs := headP_size (onL q t false log)
  have he : ((headP (onL q t false log)).extract q (q + t.size)).size = t.size := by rw [ByteArray.size_extract]; omega
  refine ext_byt he fun i hi => ?_
  rw [he] at hi
  rw [byt_cut (by omega) (by omega), headP_byt _ (by omega), onL_get, if_pos (by omega), bytS_ll, show q + i - q = i by omega]
theorem wr_out {log : List UInt8} {q i : Nat} {t : ByteArray} (hi : i < 64) (h : i < q ∨ q + t.size ≤ i) : bytS (headP (onL q t false log)) i = bytS (headP log) i := by
  rw [headP_byt _ hi, headP_byt _ hi, onL_get, if_neg (by omega)]
theorem wr_cut {log : List UInt8} {q a b : Nat} {t : ByteArray} (hb : b ≤ 64) (h : b ≤ q ∨ q + t.size ≤ a) : (headP (onL q t false log)).extract a b = (headP log).extract a b := by
  have h1 := headP_size (onL q t false log)
  have h2 := headP_size log
  refine ext_byt (by rw [ByteArray.size_extract, ByteArray.size_extract, h1, h2]) fun i hi => ?_
  rw [ByteArray.size_extract] at hi
  rw [byt_cut (by omega) (by omega), byt_cut (by omega) (by omega)]
  exact wr_out (by omega) (by omega)
theorem wr_num {log : List UInt8} {q p : Nat} {t : ByteArray} (hp : p + 4 ≤ 64) (h : p + 4 ≤ q ∨ q + t.size ≤ p) : numB (headP (onL q t false log)) p = numB (headP log) p :=
  num_same fun i hi => wr_out (by omega) (by omega)
end Go.Proofs.YtfjkockcgddgbaaGreat

namespace Go.Proofs.YtfjkockcgddgbaaGreat
/- the bytes of two files below a, from b on -/
theorem headP_ext {l l' : List UInt8} (h : ∀ i, i < 64 → bL l' i = bL l i) : headP l' = headP l := by
  refine ext_byt (by rw [headP_size, headP_size]) fun i hi => ?_
  rw [headP_size] at hi
  rw [headP_byt _ hi, headP_byt _ hi, h i hi]
/- what a log must hold to tell commit c -/
structure TP (log : List UInt8) (c : Cm) : Prop where
  len : (40 ≤ log.length ∧ log.length ≤ 52) ∨ 64 ≤ log.length
  mark : isMark (headP log) = true
  slot : c.slot ≤ 1
  number : 1 ≤ c.number ∧ c.number ≤ 3
  frames : c.frames < 4294967296
  pages : c.pages < 4294967296
  text : (headP log).extract (16 + 24 * c.slot) (16 + 24 * c.slot + 24) = txtB c.number c.frames c.pages
  fits : c.frames = 0 ∨ 64 + 1028 * c.frames ≤ log.length
  other : numB (headP log) (16 + 24 * (1 - c.slot) + 12) = 0 ∨ nxN (numB (headP log) (16 + 24 * (1 - c.slot) + 12)) = c.number
theorem TP.cur {log : List UInt8} {c : Cm} (h : TP log c) : CurP log c := curP_of h.len h.mark h.slot h.number h.frames h.pages h.text h.fits h.other
theorem TP.last {log : List UInt8} {c : Cm} (h : TP log c) : lastC log = c := h.cur.last
theorem TP.ok {log : List UInt8} {c : Cm} (h : TP log c) : okCm c := by rw [← h.last]; exact last_ok log
theorem TP.keep {log log' : List UInt8} {c : Cm} (h : TP log c) (hb : ∀ i, i < 64 → bL log' i = bL log i) (hl : (40 ≤ log'.length ∧ log'.length ≤ 52) ∨ 64 ≤ log'.length) (hf : c.frames = 0 ∨ 64 + 1028 * c.frames ≤ log'.length) : TP log' c := by
  have e := headP_ext hb
  exact ⟨hl, by rw [e]; exact h.mark, h.slot, h.number, h.frames, h.pages, by rw [e]; exact h.text, hf, by rw [e]; exact h.other⟩
theorem mark_wr {log : List UInt8} {q : Nat} {t : ByteArray} (hq : 16 ≤ q) : isMark (headP (onL q t false log)) = isMark (headP log) := by
  unfold isMark
  rw [headP_size, headP_size, wr_cut (by omega) (.inl hq)]
/- the slot's number in its second half -/
theorem TP.second {log : List UInt8} {c : Cm} (h : TP log c) : numB (headP log) (16 + 24 * c.slot + 12) = c.number := by
  have hn := h.number
  refine Eq.trans ?_ (txt_second (n := c.number) (by omega) h.frames h.pages)
  have hs := headP_size log
  have := h.slot
  refine num_same fun i hi => ?_
  rw [← h.text, byt_cut (by omega) (by omega), Nat.add_assoc]
/- the next commit's slot is written whole -/
theorem TP.whole {log : List UInt8} {c : Cm} (h : TP log c) (fr pg : Nat) (h1 : fr < 4294967296) (h2 : pg < 4294967296) (hf : fr = 0 ∨ 64 + 1028 * fr ≤ log.length) : TP (onL (16 + 24 * (1 - c.slot)) (txtB (nxN c.number) fr pg) false log) (flC c fr pg) := by
  have hs := h.slot
  have hn := h.number
  have ht := txtB_size (nxN c.number) fr pg
  have hlen : (onL (16 + 24 * (1 - c.slot)) (txtB (nxN c.number) fr pg) false log).length = max log.length (16 + 24 * (1 - c.slot) + 24) := by rw [onL_len, ht]; rfl
  have hL := h.len
  have e1 : 16 + 24 * (1 - c.slot) + 24 = 16 + 24 * (1 - c.slot) + (txtB (nxN c.number) fr pg).size := by rw [ht]
  refine ⟨by rw [hlen]; omega, by rw [mark_wr (by omega)]; exact h.mark, by show 1 - c.slot ≤ 1; omega, by show 1 ≤ c.number % 3 + 1 ∧ c.number % 3 + 1 ≤ 3; omega, h1, h2, ?_, ?_, .inr ?_⟩
  · show (headP _).extract (16 + 24 * (1 - c.slot)) (16 + 24 * (1 - c.slot) + 24) = _
    rw [e1]
    exact wr_in (by omega)
  · show fr = 0 ∨ 64 + 1028 * fr ≤ _
    rw [hlen]; omega
  · show nxN (numB _ (16 + 24 * (1 - (1 - c.slot)) + 12)) = nxN c.number
    rw [show 1 - (1 - c.slot) = c.slot by omega, wr_num (by omega) (by rw [ht]; omega), h.second]
/- half of it is written -/
theorem TP.half {log : List UInt8} {c : Cm} (h : TP log c) (t : ByteArray) (ht : t.size = 12) : TP (onL (16 + 24 * (1 - c.slot)) t false log) c := by
  have hs := h.slot
  have hlen : (onL (16 + 24 * (1 - c.slot)) t false log).length = max log.length (16 + 24 * (1 - c.slot) + 12) := by rw [onL_len, ht]; rfl
  have hL := h.len
  have hf := h.fits
  refine ⟨by rw [hlen]; omega, by rw [mark_wr (by omega)]; exact h.mark, hs, h.number, h.frames, h.pages, ?_, by rw [hlen]; omega, ?_⟩
  · rw [wr_cut (by omega) (by rw [ht]; omega)]
    exact h.text
  · rw [wr_num (by omega) (by rw [ht]; omega)]
    exact h.other
end Go.Proofs.YtfjkockcgddgbaaGreat

namespace Go.Proofs.YtfjkockcgddgbaaGreat
/- which frames hold which pages, and what pages a disk with these two files shows: plain facts -/
theorem cut_byt {l : List UInt8} {p n i : Nat} (hi : i < n) : bytS ⟨((l.drop p).take n).toArray⟩ i = (bL l (p + i)).toNat := by
  rw [← bytS_ll]
  show (bL ((l.drop p).take n).toArray.toList i).toNat = _
  unfold bL
  rw [List.getElem?_take_of_lt hi, List.getElem?_drop]
theorem frN_same {log log' : List UInt8} {i : Nat} (h : ∀ j, j < 4 → bL log' (64 + 1028 * i + j) = bL log (64 + 1028 * i + j)) : frN log' i = frN log i := by
  refine num_same fun j hj => ?_
  unfold frT
  rw [Nat.zero_add, cut_byt hj, cut_byt hj, h j hj]
theorem fndM_same {log log' : List UInt8} {F : Int → Option Int} : ∀ {k : Nat}, (∀ j, 64 ≤ j → j < 64 + 1028 * k → bL log' j = bL log j) → fndM log' F k = fndM log F k
  | 0, _ => rfl
  | k + 1, h => by
    show updM (fndM log' F k) (frN log' k) k = updM (fndM log F k) (frN log k) k
    rw [fndM_same (k := k) (fun j h1 h2 => h j h1 (by omega)), frN_same (fun j hj => h _ (by omega) (by omega))]
theorem fndM_lt {log : List UInt8} {x v : Int} : ∀ {k : Nat}, fndM log (fun _ => none) k x = some v → 0 ≤ v ∧ v < k
  | 0, h => by cases h
  | k + 1, h => by
    have h : updM (fndM log (fun _ => none) k) (frN log k) k x = some v := h
    unfold updM at h
    split at h
    · injection h with h; omega
    · have := fndM_lt h; omega
def noM : Int → Option Int := fun _ => none
/- the pages that files P (places) and log (its first k frames) show are those of F -/
structure VwA (P log : List UInt8) (k : Nat) (F : Int → Option ByteArray) (n : Nat) : Prop where
  inlog : ∀ v, fndM log noM k n = some v → ∃ t, F n = some t ∧ t.size = 1024 ∧ ∀ i, i < 1024 → bytS t i = (bL log (64 + 1028 * v.toNat + 4 + i)).toNat
  place : fndM log noM k n = none → (∀ t, F n = some t → t.size = 1024 ∧ 1024 * (n + 1) ≤ P.length ∧ ∀ i, i < 1024 → bytS t i = (bL P (1024 * n + i)).toNat) ∧ (F n = none → ∀ i, i < 1024 → bL P (1024 * n + i) = 0)
def Vw (P log : List UInt8) (k : Nat) (F : Int → Option ByteArray) : Prop := ∀ n, n < 6 → VwA P log k F n
/- page n of P is as it was -/
def PgK (P P' : List UInt8) (n : Nat) : Prop := (∀ i, i < 1024 → bL P' (1024 * n + i) = bL P (1024 * n + i)) ∧ (1024 * (n + 1) ≤ P.length → 1024 * (n + 1) ≤ P'.length)
theorem PgK.refl (P : List UInt8) (n : Nat) : PgK P P n := ⟨fun _ _ => rfl, id⟩
theorem PgK.trans {P Q R : List UInt8} {n : Nat} (h : PgK P Q n) (k : PgK Q R n) : PgK P R n := ⟨fun i hi => (k.1 i hi).trans (h.1 i hi), fun hl => k.2 (h.2 hl)⟩
theorem Vw.keep {P P' log log' : List UInt8} {k : Nat} {F : Int → Option ByteArray} (h : Vw P log k F) (hl : ∀ j, 64 ≤ j → j < 64 + 1028 * k → bL log' j = bL log j) (hp : ∀ n : Nat, n < 6 → fndM log noM k n = none → PgK P P' n) : Vw P' log' k F := fun n hn => by
  have e := fndM_same (F := noM) hl
  refine ⟨fun v hv => ?_, fun hv => ?_⟩
  · rw [e] at hv
    obtain ⟨t, h1, h2, h3⟩ := (h n hn).inlog v hv
    have hv' := fndM_lt hv
    exact ⟨t, h1, h2, fun i hi => by rw [h3 i hi, hl _ (by omega) (by omega)]⟩
  · rw [e] at hv
    obtain ⟨h1, h2⟩ := (h n hn).place hv
    obtain ⟨p1, p2⟩ := hp n hn hv
    exact ⟨fun t ht => ⟨(h1 t ht).1, p2 (h1 t ht).2.1, fun i hi => by rw [(h1 t ht).2.2 i hi, p1 i hi]⟩, fun hF i hi => by rw [p1 i hi]; exact h2 hF i hi⟩
/- the pages are at their places -/
theorem Vw.settled {P P' log : List UInt8} {k : Nat} {F : Int → Option ByteArray} (h : Vw P log k F) (log' : List UInt8) (hs : ∀ (n : Nat) (v : Int), n < 6 → fndM log noM k n = some v → 1024 * (n + 1) ≤ P'.length ∧ ∀ i, i < 1024 → bL P' (1024 * n + i) = bL log (64 + 1028 * v.toNat + 4 + i)) (hp : ∀ n : Nat, n < 6 → fndM log noM k n = none → PgK P P' n) : Vw P' log' 0 F := fun n hn => by
  refine ⟨(fun v hv => by cases hv), fun _ => ?_⟩
  cases hv : fndM log noM k n with
  | some v =>
    obtain ⟨t, h1, h2, h3⟩ := (h n hn).inlog v hv
    obtain ⟨s1, s2⟩ := hs n v hn hv
    refine ⟨fun t' ht => ?_, fun hF => by rw [h1] at hF; cases hF⟩
    rw [h1] at ht
    injection ht with ht
    subst ht
    exact ⟨h2, s1, fun i hi => by rw [h3 i hi, s2 i hi]⟩
  | none =>
    obtain ⟨h1, h2⟩ := (h n hn).place hv
    obtain ⟨p1, p2⟩ := hp n hn hv
    exact ⟨fun t ht => ⟨(h1 t ht).1, p2 (h1 t ht).2.1, fun i hi => by rw [(h1 t ht).2.2 i hi, p1 i hi]⟩, fun hF i hi => by rw [p1 i hi]; exact h2 hF i hi⟩
/- a frame's bytes behind its write -/
theorem frame_byt {log : List UInt8} {k n : Nat} {t : ByteArray} (ht : t.size = 1024) {i : Nat} (hi : i < 1028) : (bL (onL (64 + 1028 * k) (fourB n ++ t) false log) (64 + 1028 * k + i)).toNat = bytS (fourB n ++ t) i := by
  have hs : (fourB n ++ t).size = 1028 := by rw [ByteArray.size_append, fourB_size, ht]
  rw [onL_get, if_pos (by omega), bytS_ll]
  congr 1
  omega
theorem frN_new {log : List UInt8} {k n : Nat} {t : ByteArray} (ht : t.size = 1024) (hn : n < 4294967296) : frN (onL (64 + 1028 * k) (fourB n ++ t) false log) k = n := by
  refine Eq.trans (num_same fun j hj => ?_) (four_num hn)
  unfold frT
  rw [Nat.zero_add, cut_byt hj, frame_byt ht (by omega), byt_left (by rw [fourB_size]; exact hj)]
theorem fndM_new {log : List UInt8} {k n : Nat} {t : ByteArray} (ht : t.size = 1024) (hn : n < 4294967296) : fndM (onL (64 + 1028 * k) (fourB n ++ t) false log) noM (k + 1) = updM (fndM log noM k) n k := by
  show updM (fndM _ noM k) (frN _ k) k = _
  rw [frN_new ht hn, fndM_same (log := log)]
  intro j h1 h2
  rw [onL_get, if_neg (by omega)]
theorem Vw.append {P log : List UInt8} {k : Nat} {F : Int → Option ByteArray} (h : Vw P log k F) {n : Nat} {t : ByteArray} (ht : t.size = 1024) (hn : n < 6) : Vw P (onL (64 + 1028 * k) (fourB n ++ t) false log) (k + 1) (wth F n t) := fun m hm => by
  have e := fndM_new (log := log) (k := k) ht (n := n) (by omega)
  by_cases hmn : m = n
  · subst hmn
    have e1 : fndM (onL (64 + 1028 * k) (fourB m ++ t) false log) noM (k + 1) m = some (k : Int) := by rw [e]; unfold updM; rw [if_pos rfl]
    have w1 : wth F m t m = some t := by unfold wth updS; rw [if_pos rfl]
    refine ⟨fun v hv => ?_, fun hv => by rw [e1] at hv; cases hv⟩
    rw [e1] at hv
    injection hv with hv
    subst hv
    refine ⟨t, w1, ht, fun i hi => ?_⟩
    rw [Int.toNat_natCast, Nat.add_assoc, frame_byt ht (by omega)]
    rw [show 4 + i = (fourB m).size + i by rw [fourB_size], byt_right]
  · have hz : ¬ (m : Int) = (n : Int) := by omega
    have e1 : fndM (onL (64 + 1028 * k) (fourB n ++ t) false log) noM (k + 1) m = fndM log noM k m := by rw [e]; unfold updM; rw [if_neg hz]
    have w1 : wth F n t m = F m := by unfold wth updS; rw [if_neg hz]
    refine ⟨fun v hv => ?_, fun hv => ?_⟩
    · rw [e1] at hv
      obtain ⟨t', h1, h2, h3⟩ := (h m hm).inlog v hv
      have hv' := fndM_lt hv
      refine ⟨t', by rw [w1]; exact h1, h2, fun i hi => ?_⟩
      rw [h3 i hi, onL_get, if_neg (by omega)]
    · rw [e1] at hv
      rw [w1]
      exact (h m hm).place hv
theorem rd_ok {lb : Nat → List UInt8} {f p n : Nat} (hf : f < 2) (hl : p + n ≤ (lb (2 * f)).length) (hz : (lb (2 * f)).length ≤ 67108864) : rdE f p n lb false = 0 ∧ (rdS f p n lb false).size = n ∧ ∀ i, i < n → bytS (rdS f p n lb false) i = (bL (lb (2 * f)) (p + i)).toNat := by
  have ha : askE f p n false = 0 := by
    unfold askE fitsD
    rw [if_pos (by simp; omega)]
    rfl
  have hE : rdE f p n lb false = 0 := by
    unfold rdE
    rw [if_pos ha, if_neg (by simp; omega)]
  have e : rdS f p n lb false = ⟨(((lb (2 * f)).drop p).take n).toArray⟩ := by
    unfold rdS
    rw [if_pos hE]
    rfl
  refine ⟨hE, ?_, fun i hi => ?_⟩
  · rw [e]
    show (((lb (2 * f)).drop p).take n).toArray.size = n
    simp
    omega
  · rw [e, cut_byt hi]
theorem blank_byt {i : Nat} (h : i < 1024) : bytS ⟨blank.toArray⟩ i = 0 := by
  rw [← bytS_ll]
  show (bL blank i).toNat = 0
  unfold bL blank
  rw [List.getElem?_replicate, if_pos h]
  rfl
theorem blank_size : (⟨blank.toArray⟩ : ByteArray).size = 1024 := by
  show blank.toArray.size = 1024
  rw [List.size_toArray, blank_len]
/- such a log, opened, has these pages -/
theorem Vw.has {S : DS} {c : Cm} {F : Int → Option ByteArray} (h : Vw (S.lb 0) (S.lb 2) c.frames F) (ht : TP (S.lb 2) c) (hd : S.down = false) (h0 : (S.lb 0).length ≤ 67108864) (h2 : (S.lb 2).length ≤ 67108864) {n : Nat} (hn : n < 6) : hasA (opnL (S.lb 2)) S F n = true := by
  have hL := ht.last
  have hpg : isPg n = true := decide_eq_true (by omega)
  have hpl : (opnL (S.lb 2)).pl n = fndM (S.lb 2) noM c.frames n := by show fndM _ _ (lastC (S.lb 2)).frames _ = _; rw [hL]; rfl
  have hrd : rdL (opnL (S.lb 2)) S n = match fndM (S.lb 2) noM c.frames n with | some v => rdF S v | none => if S.down then (⟨#[]⟩, 2) else if ((S.lb 0).length : Int) / 1024 ≤ n then (⟨#[]⟩, 7) else (rdS 0 (1024 * n) 1024 S.lb S.down, rdE 0 (1024 * n) 1024 S.lb S.down) := by
    unfold rdL
    rw [if_neg (fun h => h hpg)]
    show (match (opnL (S.lb 2)).pl n with | some v => _ | none => _) = _
    rw [hpl]
  have hV := h n hn
  cases hv : fndM (S.lb 2) noM c.frames n with
  | some v =>
    obtain ⟨t, t1, t2, t3⟩ := hV.inlog v hv
    have hv' := fndM_lt hv
    have hfit : 64 + 1028 * c.frames ≤ (S.lb 2).length := by rcases ht.fits with h | h <;> omega
    obtain ⟨v, rfl⟩ : ∃ k : Nat, v = k := ⟨v.toNat, by omega⟩
    have hR := rd_ok (lb := S.lb) (f := 1) (p := 64 + 1028 * v + 4) (n := 1024) (by decide) (by show _ ≤ (S.lb 2).length; omega) h2
    have ec : ((64 + 1028 * v + 4 : Nat) : Int) = 64 + 1028 * (v : Int) + 4 := by omega
    obtain ⟨x, y, e2, hx, hy⟩ : ∃ x y, rdF S (v : Int) = (x, y) ∧ x = rdS ((1 : Nat) : Int) ((64 + 1028 * v + 4 : Nat) : Int) ((1024 : Nat) : Int) S.lb false ∧ y = rdE ((1 : Nat) : Int) ((64 + 1028 * v + 4 : Nat) : Int) ((1024 : Nat) : Int) S.lb false := by
      unfold rdF
      rw [hd, ec]
      exact ⟨_, _, rfl, rfl, rfl⟩
    rw [← hx, ← hy] at hR
    obtain ⟨r1, r2, r3⟩ := hR
    clear hx hy
    rw [hv] at hrd
    dsimp only at hrd
    unfold hasA
    rw [t1]
    dsimp only
    rw [hrd, e2]
    refine decide_eq_true ⟨r1, ext_byt (by show x.size = _; rw [r2, t2]) fun i hi => ?_⟩
    change i < x.size at hi
    rw [r2] at hi
    exact (r3 i hi).trans (t3 i hi).symm
  | none =>
    obtain ⟨p1, p2⟩ := hV.place hv
    rw [hv, hd] at hrd
    dsimp only at hrd
    rw [if_neg (by decide)] at hrd
    have ec : ((1024 * n : Nat) : Int) = 1024 * (n : Int) := by omega
    have e0 : rdS 0 (1024 * (n : Int)) 1024 S.lb false = rdS ((0 : Nat) : Int) ((1024 * n : Nat) : Int) ((1024 : Nat) : Int) S.lb false := by rw [ec]; rfl
    have e1 : rdE 0 (1024 * (n : Int)) 1024 S.lb false = rdE ((0 : Nat) : Int) ((1024 * n : Nat) : Int) ((1024 : Nat) : Int) S.lb false := by rw [ec]; rfl
    rw [e0, e1] at hrd
    have hR := rd_ok (lb := S.lb) (f := 0) (p := 1024 * n) (n := 1024) (by decide)
    obtain ⟨x, hx⟩ : ∃ x, x = rdS ((0 : Nat) : Int) ((1024 * n : Nat) : Int) ((1024 : Nat) : Int) S.lb false := ⟨_, rfl⟩
    obtain ⟨y, hy⟩ : ∃ y, y = rdE ((0 : Nat) : Int) ((1024 * n : Nat) : Int) ((1024 : Nat) : Int) S.lb false := ⟨_, rfl⟩
    rw [← hx, ← hy] at hrd hR
    clear hx hy e0 e1
    unfold hasA
    cases hF : F n with
    | some t =>
      obtain ⟨t2, t4, t3⟩ := p1 t hF
      dsimp only
      rw [hrd, if_neg (by omega)]
      obtain ⟨r1, r2, r3⟩ := hR (by show _ ≤ (S.lb 0).length; omega) h0
      refine decide_eq_true ⟨r1, ext_byt (by show x.size = _; rw [r2, t2]) fun i hi => ?_⟩
      change i < x.size at hi
      rw [r2] at hi
      exact (r3 i hi).trans (t3 i hi).symm
    | none =>
      dsimp only
      rw [hrd]
      by_cases hz : ((S.lb 0).length : Int) / 1024 ≤ n
      · rw [if_pos hz]
        exact decide_eq_true (fun h => by cases h)
      · rw [if_neg hz]
        obtain ⟨r1, r2, r3⟩ := hR (by show _ ≤ (S.lb 0).length; omega) h0
        refine decide_eq_true fun _ => ext_byt (by show x.size = _; rw [r2, blank_size]) fun i hi => ?_
        change i < x.size at hi
        rw [r2] at hi
        refine (r3 i hi).trans ?_
        show (bL (S.lb 0) (1024 * n + i)).toNat = _
        rw [p2 hF i hi, blank_byt hi]
        rfl
end Go.Proofs.YtfjkockcgddgbaaGreat

namespace Go.Proofs.YtfjkockcgddgbaaGreat
/- what a crash leaves of a disk whose waiting changes touch neither the log's first bytes nor the pages that it lacks: plain facts -/
theorem cut_get {p : Nat} {t : ByteArray} {l : List UInt8} {i : Nat} (hi : i < p + t.size) : bL (onL p t true l) i = bL l i := by
  unfold onL
  rw [if_pos rfl, ← bL_fil l (p + t.size)]
  unfold bL
  rw [List.getElem?_take_of_lt hi]
structure EffL (a : Nat) (log log' : List UInt8) : Prop where
  same : ∀ i, i < a → bL log' i = bL log i
  len : log.length ≤ log'.length
  big : log' = log ∨ a ≤ log'.length
theorem EffL.refl (a : Nat) (log : List UInt8) : EffL a log log := ⟨fun _ _ => rfl, Nat.le_refl _, .inl rfl⟩
theorem EffL.trans {a : Nat} {l l' l'' : List UInt8} (h : EffL a l l') (k : EffL a l' l'') : EffL a l l'' := by
  refine ⟨fun i hi => (k.same i hi).trans (h.same i hi), Nat.le_trans h.len k.len, ?_⟩
  rcases k.big with e | e
  · rcases h.big with e' | e'
    · exact .inl (e.trans e')
    · exact .inr (by rw [e]; exact e')
  · exact .inr e
theorem eff_write {a p : Nat} (t : ByteArray) (l : List UInt8) (hp : a ≤ p) : EffL a l (onL p t false l) :=
  ⟨fun i hi => by rw [onL_get, if_neg (by omega)], onL_ge, .inr (by rw [onL_len]; simp; omega)⟩
theorem TP.eff {log log' : List UInt8} {c : Cm} {a : Nat} (h : TP log c) (he : EffL a log log') (ha : 64 ≤ a) : TP log' c := by
  refine h.keep (fun i hi => he.same i (by omega)) ?_ ?_
  · rcases he.big with e | e
    · rw [e]; exact h.len
    · exact .inr (by omega)
  · have := he.len
    rcases h.fits with e | e
    · exact .inl e
    · exact .inr (by omega)
/- a change that waits, behind a log's first a bytes or of the pages K -/
def WtC (a : Nat) (K : Nat → Prop) (x : Chg) : Prop :=
  (x.f = 1 ∧ x.c = false ∧ a ≤ x.p) ∨ (x.f = 0 ∧ x.c = false ∧ (∃ n, K n ∧ x.p = 1024 * n) ∧ x.t.size ≤ 1024) ∨ (x.f = 0 ∧ x.c = true ∧ 6144 ≤ x.p ∧ ∃ n, K n)
def Wt (a : Nat) (K : Nat → Prop) (ws : List Chg) : Prop := ∀ x ∈ ws, WtC a K x
theorem Wt.nil (a : Nat) (K : Nat → Prop) : Wt a K [] := fun _ h => by cases h
theorem Wt.snoc {a : Nat} {K : Nat → Prop} {ws : List Chg} (h : Wt a K ws) {x : Chg} (hx : WtC a K x) : Wt a K (ws ++ [x]) := fun y hy => by
  rcases List.mem_append.1 hy with hy | hy
  · exact h y hy
  · obtain rfl := List.mem_singleton.1 hy
    exact hx
def noK : Nat → Prop := fun _ => False
theorem Wt.more {a : Nat} {K : Nat → Prop} {ws : List Chg} (h : Wt a noK ws) : Wt a K ws := fun x hx => by
  rcases h x hx with h | ⟨_, _, ⟨n, hn, _⟩, _⟩ | h
  · exact .inl h
  · cases hn
  · obtain ⟨_, _, _, n, hn⟩ := h
    cases hn
theorem pg_write {P : List UInt8} {m n : Nat} {t : ByteArray} (ht : t.size ≤ 1024) (h : ¬ n = m) : PgK P (onL (1024 * m) t false P) n :=
  ⟨fun i hi => by rw [onL_get, if_neg (by omega)], fun hl => Nat.le_trans hl onL_ge⟩
theorem pg_cut {P : List UInt8} {p n : Nat} {t : ByteArray} (hp : 6144 ≤ p) (hn : n < 6) : PgK P (onL p t true P) n :=
  ⟨fun i hi => cut_get (by omega), fun _ => by rw [onL_len, if_pos rfl]; omega⟩
theorem WtC.page {a : Nat} {K : Nat → Prop} {x : Chg} (h : WtC a K x) (hf : x.f = 0) {t : ByteArray} (ht : t.size ≤ x.t.size) (P : List UInt8) {n : Nat} (hn : n < 6) (hK : ¬ K n) : PgK P (onL x.p t x.c P) n := by
  rcases h with ⟨h1, _⟩ | ⟨_, h2, ⟨m, hm, hp⟩, h4⟩ | ⟨_, h2, h3, _⟩
  · omega
  · rw [h2, hp]
    exact pg_write (by omega) (fun e => hK (e ▸ hm))
  · rw [h2]
    exact pg_cut h3 hn
theorem WtC.log {a : Nat} {K : Nat → Prop} {x : Chg} (h : WtC a K x) (hf : x.f = 1) (t : ByteArray) (l : List UInt8) : EffL a l (onL x.p t x.c l) := by
  rcases h with ⟨_, h2, h3⟩ | ⟨h1, _⟩ | ⟨h1, _⟩
  · rw [h2]; exact eff_write t l h3
  · omega
  · omega
theorem WtC.file {a : Nat} {K : Nat → Prop} {x : Chg} (h : WtC a K x) : x.f = 0 ∨ x.f = 1 := by
  rcases h with h | h | h
  · exact .inr h.1
  · exact .inl h.1
  · exact .inl h.1
structure CrE (a : Nat) (K : Nat → Prop) (lb l : Nat → List UInt8) : Prop where
  log : EffL a (lb 3) (l 3)
  page : ∀ n, n < 6 → ¬ K n → PgK (lb 1) (l 1) n
theorem CrE.refl (a : Nat) (K : Nat → Prop) (lb : Nat → List UInt8) : CrE a K lb lb := ⟨EffL.refl _ _, fun n _ _ => PgK.refl _ n⟩
theorem CrE.trans {a : Nat} {K : Nat → Prop} {l l' l'' : Nat → List UInt8} (h : CrE a K l l') (k : CrE a K l' l'') : CrE a K l l'' := ⟨h.log.trans k.log, fun n hn hK => (h.page n hn hK).trans (k.page n hn hK)⟩
theorem crS_eff {a : Nat} {K : Nat → Prop} {x : Chg} (h : WtC a K x) (fa : Int) (l : Nat → List UInt8) : CrE a K l (crS fa x l) := by
  have step : ∀ t : ByteArray, t.size ≤ x.t.size → CrE a K l (updF l (2 * x.f + 1) (onL x.p t x.c (l (2 * x.f + 1)))) := fun t ht => by
    rcases h.file with e | e
    · refine ⟨?_, fun n hn hK => ?_⟩
      · rw [e, updF_ne _ _ (by decide)]; exact EffL.refl _ _
      · have := h.page e ht (l 1) hn hK
        rw [e, updF_at]; exact this
    · refine ⟨?_, fun n hn hK => ?_⟩
      · have := h.log e t (l 3)
        rw [e, updF_at]; exact this
      · rw [e, updF_ne _ _ (by decide)]; exact PgK.refl _ n
  unfold crS
  split
  · exact step _ (Nat.le_refl _)
  · split
    · exact step _ (by rw [half_size]; omega)
    · exact CrE.refl _ _ _
theorem crL_eff {a : Nat} {K : Nat → Prop} {ws : List Chg} (h : Wt a K ws) (fa : Nat → Int) (lb : Nat → List UInt8) : ∀ i, i ≤ ws.length → CrE a K lb (crL fa ws lb i)
  | 0, _ => CrE.refl _ _ _
  | i + 1, hi => by
    rw [crL_succ (by omega)]
    exact (crL_eff h fa lb i (by omega)).trans (crS_eff (h _ (List.getElem_mem _)) _ _)
theorem crL_pre {fa : Nat → Int} {ws : List Chg} {x : Chg} {lb : Nat → List UInt8} : ∀ i, i ≤ ws.length → crL fa (ws ++ [x]) lb i = crL fa ws lb i
  | 0, _ => rfl
  | i + 1, hi => by
    rw [crL_succ (by rw [List.length_append]; omega), crL_succ (by omega), crL_pre i (by omega), List.getElem_append_left (by omega)]
theorem crL_snoc (fa : Nat → Int) (ws : List Chg) (x : Chg) (lb : Nat → List UInt8) : crL fa (ws ++ [x]) lb (ws ++ [x]).length = crS (fa ws.length) x (crL fa ws lb ws.length) := by
  rw [show (ws ++ [x]).length = ws.length + 1 by simp, crL_succ (by simp), crL_pre _ (Nat.le_refl _)]
  simp
/- what is seen of a log, where only such changes wait -/
theorem fold_eff {a : Nat} {K : Nat → Prop} : ∀ {ws : List Chg}, Wt a K ws → ∀ l, EffL a l (foldF 1 ws l)
  | [], _, l => EffL.refl _ _
  | x :: r, h, l => by
    have hr : Wt a K r := fun y hy => h y (List.mem_cons_of_mem _ hy)
    show EffL a l (foldF 1 r (if x.f = 1 then onL x.p x.t x.c l else l))
    refine EffL.trans ?_ (fold_eff hr _)
    split
    · rename_i e
      exact (h x (List.mem_cons_self ..)).log e _ _
    · exact EffL.refl _ _
/- the pages, and the bytes, that are left -/
structure GoodS (S : DS) (F : Int → Option ByteArray) (c : Cm) : Prop where
  tp : TP (S.lb 2) c
  vw : Vw (S.lb 0) (S.lb 2) c.frames F
  f0 : S.lb 1 = S.lb 0
  f1 : S.lb 3 = S.lb 2
  ws : S.ws = []
  down : S.down = false
def CrOK (S : DS) (F : Int → Option ByteArray) : Prop := ∀ fa, ∃ c, GoodS (crD fa S) F c
def CrOr (S : DS) (F F' : Int → Option ByteArray) : Prop := ∀ fa, (∃ c, GoodS (crD fa S) F c) ∨ ∃ c, GoodS (crD fa S) F' c
theorem CrOK.or {S : DS} {F : Int → Option ByteArray} (h : CrOK S F) (F' : Int → Option ByteArray) : CrOr S F F' := fun fa => .inl (h fa)
theorem CrOK.same {S T : DS} {F : Int → Option ByteArray} (h : CrOK S F) (h1 : T.lb = S.lb) (h2 : T.ws = S.ws) : CrOK T F := fun fa => by
  obtain ⟨c, g⟩ := h fa
  have e : (crD fa T).lb = (crD fa S).lb := by unfold crD; rw [h1, h2]
  exact ⟨c, by rw [e]; exact g.tp, by rw [e]; exact g.vw, by rw [e]; exact g.f0, by rw [e]; exact g.f1, rfl, rfl⟩
theorem good_of {fa : Nat → Int} {S : DS} {F : Int → Option ByteArray} {c : Cm} (h1 : TP (crL fa S.ws S.lb S.ws.length 3) c) (h2 : Vw (crL fa S.ws S.lb S.ws.length 1) (crL fa S.ws S.lb S.ws.length 3) c.frames F) : GoodS (crD fa S) F c := by
  obtain ⟨c0, c1, c2, c3⟩ := cp_at (crL fa S.ws S.lb S.ws.length)
  have e0 : (crD fa S).lb 0 = crL fa S.ws S.lb S.ws.length 1 := c0
  have e1 : (crD fa S).lb 1 = crL fa S.ws S.lb S.ws.length 1 := c1
  have e2 : (crD fa S).lb 2 = crL fa S.ws S.lb S.ws.length 3 := c2
  have e3 : (crD fa S).lb 3 = crL fa S.ws S.lb S.ws.length 3 := c3
  exact ⟨by rw [e2]; exact h1, by rw [e0, e2]; exact h2, by rw [e0, e1], by rw [e2, e3], rfl, rfl⟩
/- no slot waits -/
theorem crash_wt {S : DS} {c : Cm} {F : Int → Option ByteArray} (ht : TP (S.lb 3) c) (hv : Vw (S.lb 1) (S.lb 3) c.frames F) (hw : Wt (64 + 1028 * c.frames) (fun n => ¬ fndM (S.lb 3) noM c.frames n = none) S.ws) : CrOK S F := fun fa => by
  have he := crL_eff hw fa S.lb S.ws.length (Nat.le_refl _)
  refine ⟨c, good_of (ht.eff he.log (by omega)) (hv.keep (fun j _ h2 => he.log.same j h2) (fun n hn h => he.page n hn (fun k => k h)))⟩
/- a slot waits behind them -/
theorem crash_slot {S : DS} {c : Cm} {ws : List Chg} {fr pg a : Nat} {F F' : Int → Option ByteArray} (ht : TP (S.lb 3) c) (hS : S.ws = ws ++ [⟨1, 16 + 24 * (1 - c.slot), txtB (nxN c.number) fr pg, false⟩]) (hw : Wt a noK ws) (h1 : 64 + 1028 * c.frames ≤ a) (h2 : 64 + 1028 * fr ≤ a)
    (hf1 : fr < 4294967296) (hp1 : pg < 4294967296) (hf : fr = 0 ∨ 64 + 1028 * fr ≤ (S.lb 3).length) (hv : Vw (S.lb 1) (S.lb 3) c.frames F) (hv' : Vw (S.lb 1) (S.lb 3) fr F') : CrOr S F F' := fun fa => by
  have hs := ht.slot
  have he := crL_eff hw fa S.lb ws.length (Nat.le_refl _)
  have hx : crL fa S.ws S.lb S.ws.length = crS (fa ws.length) ⟨1, 16 + 24 * (1 - c.slot), txtB (nxN c.number) fr pg, false⟩ (crL fa ws S.lb ws.length) := by rw [hS]; exact crL_snoc fa ws _ S.lb
  obtain ⟨l, hl⟩ : ∃ l, l = crL fa ws S.lb ws.length := ⟨_, rfl⟩
  rw [← hl] at he hx
  have ht' := ht.eff he.log (by omega)
  have hP : ∀ n, n < 6 → PgK (S.lb 1) (l 1) n := fun n hn => he.page n hn (fun k => k)
  have after : ∀ t : ByteArray, t.size ≤ 24 → ∀ j, 64 ≤ j → j < a → bL (onL (16 + 24 * (1 - c.slot)) t false (l 3)) j = bL (S.lb 3) j := fun t hts j j1 j2 => by
    rw [onL_get, if_neg (by omega)]
    exact he.log.same j j2
  have hts := txtB_size (nxN c.number) fr pg
  unfold crS at hx
  by_cases e1 : fa ws.length = 1
  · rw [if_pos e1] at hx
    replace hx : crL fa S.ws S.lb S.ws.length = updF l 3 (onL (16 + 24 * (1 - c.slot)) (txtB (nxN c.number) fr pg) false (l 3)) := hx
    refine .inr ⟨flC c fr pg, good_of ?_ ?_⟩
    · rw [hx, updF_at]
      exact ht'.whole fr pg hf1 hp1 (hf.imp id fun h => Nat.le_trans h he.log.len)
    · rw [hx, updF_at, updF_ne _ _ (by decide)]
      exact hv'.keep (fun j j1 j2 => after _ (by rw [hts]; omega) j j1 (by omega)) (fun n hn _ => hP n hn)
  · rw [if_neg e1] at hx
    by_cases e2 : fa ws.length = 2
    · rw [if_pos e2] at hx
      replace hx : crL fa S.ws S.lb S.ws.length = updF l 3 (onL (16 + 24 * (1 - c.slot)) (half (txtB (nxN c.number) fr pg)) false (l 3)) := hx
      refine .inl ⟨c, good_of ?_ ?_⟩
      · rw [hx, updF_at]
        exact ht'.half _ (by rw [half_size, hts])
      · rw [hx, updF_at, updF_ne _ _ (by decide)]
        exact hv.keep (fun j j1 j2 => after _ (by rw [half_size, hts]; omega) j j1 (by omega)) (fun n hn _ => hP n hn)
    · rw [if_neg e2] at hx
      refine .inl ⟨c, good_of ?_ ?_⟩
      · rw [hx]; exact ht'
      · rw [hx]
        exact hv.keep (fun j j1 j2 => he.log.same j (by omega)) (fun n hn _ => hP n hn)
/- a second crash, behind an opening that only read -/
theorem GoodS.again {S T : DS} {F : Int → Option ByteArray} {c : Cm} (h : GoodS S F c) (h1 : T.lb = S.lb) (h2 : T.ws = S.ws) (fa : Nat → Int) : GoodS (crD fa T) F c := by
  have e : ∀ j, crL fa T.ws T.lb T.ws.length j = S.lb j := fun j => by rw [h1, h2, h.ws]; rfl
  refine good_of ?_ ?_
  · rw [e, h.f1]; exact h.tp
  · rw [e, e, h.f1, h.f0]; exact h.vw
end Go.Proofs.YtfjkockcgddgbaaGreat

namespace Go.Proofs.YtfjkockcgddgbaaGreat
/- Append, Back, Commit of a log, and what a crash behind them leaves: plain facts -/
theorem op_two {S : DS} (hd : S.down = false) {f p : Int} (f' p' : Nat) (t : ByteArray) (c : Bool) (hf : f = f') (hp : p = p') (hf2 : f' < 2) (hs : p' + t.size ≤ 67108864) :
    opD S f p t c = (2, { S with down := true }) ∨ ∃ left, opD S f p t c = (0, ⟨updF S.lb (2 * f') (onL p' t c (S.lb (2 * f'))), S.ws ++ [⟨f', p', t, c⟩], left, S.count + 1, false⟩) := by
  subst hf hp
  have ha : askE f' p' t.size S.down = 0 := by
    unfold askE fitsD
    rw [hd, if_pos (by simp; omega)]
    rfl
  unfold opD
  rw [if_pos ha]
  by_cases hl : S.left = 0
  · rw [if_pos hl]; exact .inl rfl
  · rw [if_neg hl]; exact .inr ⟨decL S.left, by rw [hd]; rfl⟩
theorem syn_two {S : DS} (hd : S.down = false) {f : Int} (f' : Nat) (hf : f = f') (hf2 : f' < 2) :
    synD S f = (2, { S with down := true }) ∨ ∃ left, synD S f = (0, ⟨updF S.lb (2 * f' + 1) (foldF f' S.ws (S.lb (2 * f' + 1))), othF f' S.ws, left, S.count + 1, false⟩) := by
  subst hf
  have ha : askE f' 0 0 S.down = 0 := by
    unfold askE fitsD
    rw [hd, if_pos (by simp; omega)]
    rfl
  unfold synD
  rw [if_pos ha]
  by_cases hl : S.left = 0
  · rw [if_pos hl]; exact .inl rfl
  · rw [if_neg hl]; exact .inr ⟨decL S.left, by rw [hd]; rfl⟩
theorem oth_none {a : Nat} {ws : List Chg} (h : Wt a noK ws) : othF 1 ws = [] := by
  unfold othF
  rw [List.filter_eq_nil_iff]
  intro x hx
  rcases h x hx with h | ⟨_, _, ⟨n, hn, _⟩, _⟩ | ⟨_, _, _, n, hn⟩
  · rw [h.1]; decide
  · cases hn
  · cases hn
/- a log ahead of a slot's write -/
structure Pre (c : Cm) (S : DS) (a : Nat) : Prop where
  tp : TP (S.lb 3) c
  seen : S.lb 2 = foldF 1 S.ws (S.lb 3)
  wait : Wt a noK S.ws
  up : S.down = false
theorem tl_out {L : LS} {S : DS} {fr pg a : Nat} {F F' : Int → Option ByteArray} (h : Pre L.last S a) (h1 : 64 + 1028 * L.last.frames ≤ a) (h2 : 64 + 1028 * fr ≤ a) (hf1 : fr < 4294967296) (hp1 : pg < 4294967296) (hf : fr = 0 ∨ 64 + 1028 * fr ≤ (S.lb 3).length) (hv : Vw (S.lb 1) (S.lb 3) L.last.frames F) (hv' : Vw (S.lb 1) (S.lb 3) fr F') :
    (∃ S', tlL L S fr pg = (2, L, S') ∧ S'.down = true ∧ CrOr S' F F') ∨
    (∃ S', tlL L S fr pg = (0, { L with last := flC L.last fr pg, fr := fr }, S') ∧ S'.lb 0 = S.lb 0 ∧ S'.lb 1 = S.lb 1 ∧ S'.lb 3 = S'.lb 2 ∧ S'.ws = [] ∧ S'.down = false ∧ TP (S'.lb 3) (flC L.last fr pg) ∧ (∀ j, 64 ≤ j → j < a → bL (S'.lb 3) j = bL (S.lb 3) j) ∧ (S.lb 3).length ≤ (S'.lb 3).length) := by
  have hs := h.tp.slot
  have hts := txtB_size (nxN L.last.number) fr pg
  have hE : EffL a (S.lb 3) (S.lb 2) := by rw [h.seen]; exact fold_eff h.wait _
  unfold tlL
  rcases op_two h.up 1 (16 + 24 * (1 - L.last.slot)) (txtB (nxN L.last.number) fr pg) false (f := 1) (p := 16 + 24 * ((1 - L.last.slot : Nat) : Int)) rfl (by omega) (by decide) (by omega) with e | ⟨left, e⟩
  · rw [e]
    refine .inl ⟨_, rfl, rfl, CrOK.or ?_ F'⟩
    refine CrOK.same (S := S) ?_ rfl rfl
    refine crash_wt h.tp hv ?_
    intro x hx
    exact (Wt.more h.wait x hx).elim (fun k => .inl ⟨k.1, k.2.1, by omega⟩) .inr
  · rw [e, if_pos rfl]
    obtain ⟨T, hT⟩ : ∃ T : DS, T = ⟨updF S.lb (2 * 1) (onL (16 + 24 * (1 - L.last.slot)) (txtB (nxN L.last.number) fr pg) false (S.lb (2 * 1))), S.ws ++ [⟨1, 16 + 24 * (1 - L.last.slot), txtB (nxN L.last.number) fr pg, false⟩], left, S.count + 1, false⟩ := ⟨_, rfl⟩
    rw [← hT]
    have t0 : T.lb 0 = S.lb 0 := by rw [hT]; rfl
    have t1 : T.lb 1 = S.lb 1 := by rw [hT]; rfl
    have t2 : T.lb 2 = onL (16 + 24 * (1 - L.last.slot)) (txtB (nxN L.last.number) fr pg) false (S.lb 2) := by rw [hT]; rfl
    have t3 : T.lb 3 = S.lb 3 := by rw [hT]; rfl
    have tw : T.ws = S.ws ++ [⟨1, 16 + 24 * (1 - L.last.slot), txtB (nxN L.last.number) fr pg, false⟩] := by rw [hT]
    have td : T.down = false := by rw [hT]
    clear hT e
    show (∃ S', (if (synD T 1).1 = 0 then _ else _) = _ ∧ _) ∨ (∃ S', (if (synD T 1).1 = 0 then _ else _) = _ ∧ _)
    rcases syn_two td 1 (f := 1) rfl (by decide) with e | ⟨left', e⟩
    · rw [e]
      refine .inl ⟨_, rfl, rfl, ?_⟩
      have := crash_slot (S := T) (c := L.last) (F := F) (F' := F') (by rw [t3]; exact h.tp) tw h.wait h1 h2 hf1 hp1 (by rw [t3]; exact hf) (by rw [t1, t3]; exact hv) (by rw [t1, t3]; exact hv')
      exact this
    · rw [e, if_pos rfl]
      refine .inr ⟨_, rfl, t0, t1, ?_, ?_, rfl, ?_, ?_, ?_⟩
      all_goals dsimp only
      all_goals try rw [show updF T.lb (2 * 1 + 1) (foldF 1 T.ws (T.lb (2 * 1 + 1))) 3 = T.lb 2 by rw [show (2 * 1 + 1) = 3 from rfl, updF_at, tw, t3, foldF_snoc, if_pos rfl, t2, h.seen]]
      · rfl
      · rw [tw, othF_snoc, if_pos rfl, oth_none h.wait]
      · rw [t2]
        exact (h.tp.eff hE (by omega)).whole fr pg hf1 hp1 (hf.imp id fun k => Nat.le_trans k hE.len)
      · intro j j1 j2
        rw [t2, onL_get, if_neg (by omega)]
        exact hE.same j j2
      · rw [t2]
        exact Nat.le_trans hE.len onL_ge
structure Inv (L : LS) (S : DS) (kept now : Int → Option ByteArray) (m : Nat) : Prop where
  fr : L.last.frames ≤ L.fr ∧ L.fr ≤ m
  len : L.fr = 0 ∨ 64 + 1028 * L.fr ≤ (S.lb 2).length
  pre : Pre L.last S (64 + 1028 * L.last.frames)
  f0 : S.lb 0 = S.lb 1
  pages : L.last.pages = 6 ∨ L.last.frames = 0
  pl : L.pl = fndM (S.lb 3) noM L.last.frames
  al : mrg L.pl L.fh = fndM (S.lb 2) noM L.fr
  fh : ∀ x v, L.fh x = some v → (L.last.frames : Int) ≤ v ∧ v < L.fr
  keys : ∀ x v, fndM (S.lb 2) noM L.fr x = some v → 0 ≤ x ∧ x < 6
  kv : Vw (S.lb 1) (S.lb 3) L.last.frames kept
  nv : Vw (S.lb 1) (S.lb 2) L.fr now
theorem Inv.eff {L : LS} {S : DS} {kept now : Int → Option ByteArray} {m : Nat} (h : Inv L S kept now m) : EffL (64 + 1028 * L.last.frames) (S.lb 3) (S.lb 2) := by rw [h.pre.seen]; exact fold_eff h.pre.wait _
theorem Inv.crash {L : LS} {S : DS} {kept now : Int → Option ByteArray} {m : Nat} (h : Inv L S kept now m) : CrOK S kept := crash_wt h.pre.tp h.kv (Wt.more h.pre.wait)
theorem Inv.mono {L : LS} {S : DS} {kept now : Int → Option ByteArray} {m k : Nat} (h : Inv L S kept now m) (hk : m ≤ k) : Inv L S kept now k := ⟨⟨h.fr.1, Nat.le_trans h.fr.2 hk⟩, h.len, h.pre, h.f0, h.pages, h.pl, h.al, h.fh, h.keys, h.kv, h.nv⟩
theorem Inv.left {L : LS} {S : DS} {kept now : Int → Option ByteArray} {m : Nat} (h : Inv L S kept now m) (n : Int) : Inv L { S with left := n } kept now m := ⟨h.fr, h.len, ⟨h.pre.tp, h.pre.seen, h.pre.wait, h.pre.up⟩, h.f0, h.pages, h.pl, h.al, h.fh, h.keys, h.kv, h.nv⟩
theorem Inv.pos {L : LS} {S : DS} {kept now : Int → Option ByteArray} {m : Nat} (h : Inv L S kept now m) (x : Int) (hx : (L.pl x).isSome = true) : 0 ≤ x ∧ x < 6 := by
  have : (mrg L.pl L.fh x).isSome = true := by
    unfold mrg
    cases L.fh x with
    | some v => rfl
    | none => exact hx
  rw [h.al] at this
  obtain ⟨v, hv⟩ := Option.isSome_iff_exists.1 this
  exact h.keys x v hv
theorem Inv.posF {L : LS} {S : DS} {kept now : Int → Option ByteArray} {m : Nat} (h : Inv L S kept now m) (x : Int) (hx : (L.fh x).isSome = true) : 0 ≤ x ∧ x < 6 := by
  obtain ⟨v, hv⟩ := Option.isSome_iff_exists.1 hx
  have : mrg L.pl L.fh x = some v := by unfold mrg; rw [hv]
  rw [h.al] at this
  exact h.keys x v this
theorem Inv.okp {L : LS} {S : DS} {kept now : Int → Option ByteArray} {m : Nat} (h : Inv L S kept now m) (hm : m ≤ 1000000) : okM L.pl := fun x v hv => by
  rw [h.pl] at hv
  have := fndM_lt hv
  have := h.fr
  omega
theorem Inv.okf {L : LS} {S : DS} {kept now : Int → Option ByteArray} {m : Nat} (h : Inv L S kept now m) (hm : m ≤ 1000000) : okM L.fh := fun x v hv => by
  have := h.fh x v hv
  have := h.fr
  omega
theorem ap_out {L : LS} {S : DS} {kept now : Int → Option ByteArray} {m n : Nat} {t : ByteArray} (h : Inv L S kept now m) (hm : m ≤ 60000) (hn : n < 6) (ht : t.size = 1024) :
    (∃ S', apL L S n t = (2, L, S') ∧ S'.down = true ∧ CrOK S' kept) ∨ (∃ S', apL L S n t = (0, { L with fh := updM L.fh n L.fr, fr := L.fr + 1 }, S') ∧ Inv { L with fh := updM L.fh n L.fr, fr := L.fr + 1 } S' kept (wth now n t) (m + 1)) := by
  have hfr := h.fr
  have hs : (fourB n ++ t).size = 1028 := by rw [ByteArray.size_append, fourB_size, ht]
  have hpg : isPg n = true := decide_eq_true (by omega)
  unfold apL
  rw [if_neg (fun k => k ⟨hpg, ht⟩), if_neg (by omega), Int.toNat_natCast]
  rcases op_two h.pre.up 1 (64 + 1028 * L.fr) (fourB n ++ t) false (f := 1) (p := 64 + 1028 * (L.fr : Int)) rfl (by omega) (by decide) (by omega) with e | ⟨left, e⟩
  · rw [e]
    exact .inl ⟨_, rfl, rfl, h.crash.same rfl rfl⟩
  · rw [e, if_pos rfl]
    refine .inr ⟨_, rfl, ?_⟩
    have hE := h.eff
    have e2 := fndM_new (log := S.lb 2) (k := L.fr) ht (n := n) (by omega)
    refine ⟨⟨by show L.last.frames ≤ L.fr + 1; omega, by show L.fr + 1 ≤ m + 1; omega⟩, .inr ?_, ⟨h.pre.tp, ?_, ?_, rfl⟩, h.f0, h.pages, h.pl, ?_, ?_, ?_, h.kv, h.nv.append ht hn⟩
    · show 64 + 1028 * (L.fr + 1) ≤ (onL (64 + 1028 * L.fr) (fourB n ++ t) false (S.lb 2)).length
      rw [onL_len, hs]
      simp
      omega
    · show onL (64 + 1028 * L.fr) (fourB n ++ t) false (S.lb 2) = foldF 1 (S.ws ++ [_]) (S.lb 3)
      rw [foldF_snoc, if_pos rfl, h.pre.seen]
    · exact Wt.snoc h.pre.wait (.inl ⟨rfl, rfl, by show 64 + 1028 * L.last.frames ≤ 64 + 1028 * L.fr; omega⟩)
    · show mrg L.pl (updM L.fh n L.fr) = fndM (onL (64 + 1028 * L.fr) (fourB n ++ t) false (S.lb 2)) noM (L.fr + 1)
      rw [e2, ← h.al]
      funext x
      unfold mrg updM
      by_cases hx : x = (n : Int)
      · rw [if_pos hx, if_pos hx]
      · rw [if_neg hx, if_neg hx]
    · intro x v hv
      have hv : updM L.fh n L.fr x = some v := hv
      unfold updM at hv
      show (L.last.frames : Int) ≤ v ∧ v < ((L.fr + 1 : Nat) : Int)
      split at hv
      · injection hv with hv
        omega
      · have := h.fh x v hv
        omega
    · intro x v hv
      have hv : fndM (onL (64 + 1028 * L.fr) (fourB n ++ t) false (S.lb 2)) noM (L.fr + 1) x = some v := hv
      rw [e2] at hv
      unfold updM at hv
      split at hv
      · omega
      · exact h.keys x v hv
theorem bk_out {L : LS} {S : DS} {kept now : Int → Option ByteArray} {m : Nat} (h : Inv L S kept now m) : Inv (bkL L) S kept kept m := by
  have hE := h.eff
  have hfr := h.fr
  have e1 : fndM (S.lb 2) noM L.last.frames = L.pl := by rw [h.pl]; exact fndM_same (fun j _ j2 => hE.same j j2)
  have e2 : mrg L.pl (fun _ => none) = L.pl := by funext x; rfl
  refine ⟨⟨Nat.le_refl _, by show L.last.frames ≤ m; omega⟩, ?_, h.pre, h.f0, h.pages, h.pl, ?_, (fun x v hv => by cases hv), ?_, h.kv, ?_⟩
  · show L.last.frames = 0 ∨ 64 + 1028 * L.last.frames ≤ _
    have := h.len
    omega
  · show mrg L.pl (fun _ => none) = fndM (S.lb 2) noM L.last.frames
    rw [e1, e2]
  · intro x v hv
    have hv : fndM (S.lb 2) noM L.last.frames x = some v := hv
    rw [e1] at hv
    exact h.pos x (by rw [hv]; rfl)
  · exact h.kv.keep (fun j _ j2 => hE.same j j2) (fun n _ _ => PgK.refl _ n)
theorem cm_out {L : LS} {S : DS} {kept now : Int → Option ByteArray} {m n : Nat} {t : ByteArray} (h : Inv L S kept now m) (hm : m ≤ 60000) (hn : n < 6) (ht : t.size = 1024) :
    (∃ L' S', cmL L S n t 6 = (2, L', S') ∧ S'.down = true ∧ CrOr S' kept (wth now n t)) ∨ (∃ L' S', cmL L S n t 6 = (0, L', S') ∧ Inv L' S' (wth now n t) (wth now n t) (m + 1)) := by
  unfold cmL
  rw [if_neg (fun k => k ⟨by decide, by decide⟩)]
  rcases ap_out h hm hn ht with ⟨S1, e1, d1, c1⟩ | ⟨S1, e1, I1⟩
  · rw [e1]
    exact .inl ⟨_, _, rfl, d1, c1.or _⟩
  · generalize hL1 : ({ L with fh := updM L.fh n L.fr, fr := L.fr + 1 } : LS) = L1 at e1 I1
    have hp : L.pl = L1.pl := by rw [← hL1]
    rw [e1, if_neg (fun k => k rfl), hp]
    clear hp hL1 e1 h
    show (∃ L' S', (if ¬ (synD S1 1).1 = 0 then ((synD S1 1).1, L1, (synD S1 1).2) else if ¬ (tlL L1 (synD S1 1).2 L1.fr (6 : Int).toNat).1 = 0 then tlL L1 (synD S1 1).2 L1.fr (6 : Int).toNat else (0, { (tlL L1 (synD S1 1).2 L1.fr (6 : Int).toNat).2.1 with pl := mrg L1.pl L1.fh, fh := fun _ => none }, (tlL L1 (synD S1 1).2 L1.fr (6 : Int).toNat).2.2)) = _ ∧ _) ∨ (∃ L' S', (if ¬ (synD S1 1).1 = 0 then ((synD S1 1).1, L1, (synD S1 1).2) else if ¬ (tlL L1 (synD S1 1).2 L1.fr (6 : Int).toNat).1 = 0 then tlL L1 (synD S1 1).2 L1.fr (6 : Int).toNat else (0, { (tlL L1 (synD S1 1).2 L1.fr (6 : Int).toNat).2.1 with pl := mrg L1.pl L1.fh, fh := fun _ => none }, (tlL L1 (synD S1 1).2 L1.fr (6 : Int).toNat).2.2)) = _ ∧ _)
    have hfr := I1.fr
    have hE := I1.eff
    rcases syn_two I1.pre.up 1 (f := 1) rfl (by decide) with e | ⟨left, e⟩
    · rw [e]
      exact .inl ⟨_, _, rfl, rfl, (I1.crash.same rfl rfl).or _⟩
    · generalize hS2 : (⟨updF S1.lb (2 * 1 + 1) (foldF 1 S1.ws (S1.lb (2 * 1 + 1))), othF 1 S1.ws, left, S1.count + 1, false⟩ : DS) = S2 at e
      rw [e, if_neg (fun k => k rfl)]
      have s0 : S2.lb 0 = S1.lb 0 := by rw [← hS2]; rfl
      have s1 : S2.lb 1 = S1.lb 1 := by rw [← hS2]; rfl
      have s2 : S2.lb 2 = S1.lb 2 := by rw [← hS2]; rfl
      have s3 : S2.lb 3 = S1.lb 2 := by rw [← hS2, I1.pre.seen]; rfl
      have sw : S2.ws = [] := by rw [← hS2]; exact oth_none I1.pre.wait
      have sd : S2.down = false := by rw [← hS2]
      clear hS2 e
      have hlen := I1.len
      rcases tl_out (L := L1) (S := S2) (fr := L1.fr) (pg := (6 : Int).toNat) (a := 64 + 1028 * L1.fr) (F := kept) (F' := wth now n t) ⟨by rw [s3]; exact I1.pre.tp.eff hE (by omega), by rw [sw, s2, s3]; rfl, by rw [sw]; exact Wt.nil _ _, sd⟩ (by omega) (by omega) (by omega) (by decide) (by rw [s3]; exact hlen)
        (by rw [s1, s3]; exact I1.kv.keep (fun j _ j2 => hE.same j j2) (fun n _ _ => PgK.refl _ n)) (by rw [s1, s3]; exact I1.nv) with ⟨S3, e3, d3, c3⟩ | ⟨S3, e3, k0, k1, k2, k3, k4, k5, k6, k7⟩
      · rw [e3]
        exact .inl ⟨_, _, rfl, d3, c3⟩
      · rw [e3, if_neg (fun k => k rfl)]
        refine .inr ⟨_, _, rfl, ?_⟩
        have eL : fndM (S3.lb 3) noM L1.fr = fndM (S1.lb 2) noM L1.fr := fndM_same (fun j j1 j2 => by rw [k6 j j1 j2, s3])
        have hV : Vw (S3.lb 1) (S3.lb 3) L1.fr (wth now n t) := by
          rw [k1, s1]
          exact I1.nv.keep (fun j j1 j2 => by rw [k6 j j1 j2, s3]) (fun n _ _ => PgK.refl _ n)
        refine ⟨⟨Nat.le_refl _, hfr.2⟩, ?_, ⟨k5, by rw [k3, ← k2]; rfl, by rw [k3]; exact Wt.nil _ _, k4⟩, by rw [k0, k1, s0, s1]; exact I1.f0, .inl rfl, ?_, ?_, (fun x v hv => by cases hv), ?_, hV, by rw [← k2]; exact hV⟩
        · show L1.fr = 0 ∨ 64 + 1028 * L1.fr ≤ (S3.lb 2).length
          rw [← k2]
          rw [s3] at k7
          omega
        · show mrg L1.pl L1.fh = fndM (S3.lb 3) noM L1.fr
          rw [eL]; exact I1.al
        · show mrg (mrg L1.pl L1.fh) (fun _ => none) = fndM (S3.lb 2) noM L1.fr
          rw [← k2, eL, ← I1.al]
          funext x
          rfl
        · intro x v hv
          have hv : fndM (S3.lb 2) noM L1.fr x = some v := hv
          rw [← k2, eL] at hv
          exact I1.keys x v hv
end Go.Proofs.YtfjkockcgddgbaaGreat

namespace Go.Proofs.YtfjkockcgddgbaaGreat
/- Checkpoint of a log, and what a crash behind it leaves; a new log; a log that is opened anew: plain facts -/
/- pages that the log holds -/
def inK (S : DS) (c : Cm) : Nat → Prop := fun n => ¬ fndM (S.lb 3) noM c.frames n = none
structure St (c : Cm) (S0 : DS) (done : Int → Prop) (T : DS) : Prop where
  l1 : T.lb 1 = S0.lb 1
  l2 : T.lb 2 = S0.lb 2
  l3 : T.lb 3 = S0.lb 3
  up : T.down = false
  wait : Wt (64 + 1028 * c.frames) (inK S0 c) T.ws
  oth : othF 0 T.ws = S0.ws
  fold : T.lb 0 = foldF 0 T.ws (T.lb 1)
  page : ∀ n, n < 6 → ¬ inK S0 c n → PgK (S0.lb 1) (T.lb 0) n
  set : ∀ (n : Nat) (v : Int), n < 6 → done n → fndM (S0.lb 3) noM c.frames n = some v → 1024 * (n + 1) ≤ (T.lb 0).length ∧ ∀ i, i < 1024 → bL (T.lb 0) (1024 * n + i) = bL (S0.lb 3) (64 + 1028 * v.toNat + 4 + i)
theorem St.crash {c : Cm} {S0 T T' : DS} {done : Int → Prop} {F : Int → Option ByteArray} (h : St c S0 done T) (ht : TP (S0.lb 3) c) (hv : Vw (S0.lb 1) (S0.lb 3) c.frames F) (e1 : T'.lb = T.lb) (e2 : T'.ws = T.ws) : CrOK T' F :=
  CrOK.same (crash_wt (S := T) (by rw [h.l3]; exact ht) (by rw [h.l1, h.l3]; exact hv) (by rw [h.l3]; exact h.wait)) e1 e2
theorem fold_other : ∀ {ws : List Chg} {f : Nat}, (∀ x ∈ ws, ¬ x.f = f) → ∀ l, foldF f ws l = l
  | [], _, _, _ => rfl
  | x :: r, f, h, l => by
    show foldF f r (if x.f = f then onL x.p x.t x.c l else l) = l
    rw [if_neg (h x (List.mem_cons_self ..))]
    exact fold_other (fun y hy => h y (List.mem_cons_of_mem _ hy)) l
theorem only_log {a : Nat} {ws : List Chg} (h : Wt a noK ws) : ∀ x ∈ ws, x.f = 1 := fun x hx => by
  rcases h x hx with h | ⟨_, _, ⟨n, hn, _⟩, _⟩ | ⟨_, _, _, n, hn⟩
  · exact h.1
  · cases hn
  · cases hn
theorem Inv.st {L : LS} {S : DS} {kept now : Int → Option ByteArray} {m : Nat} (h : Inv L S kept now m) : St L.last S (fun _ => False) S := by
  have ho := only_log h.pre.wait
  refine ⟨rfl, rfl, rfl, h.pre.up, Wt.more h.pre.wait, ?_, ?_, ?_, (fun n v _ hd => by cases hd)⟩
  · unfold othF
    rw [List.filter_eq_self]
    intro x hx
    rw [ho x hx]
    rfl
  · rw [fold_other (fun x hx e => by have := ho x hx; omega)]
    exact h.f0
  · intro n _ _
    rw [h.f0]
    exact PgK.refl _ n
/- one page is written to its place -/
theorem St.write {c : Cm} {S0 T : DS} {done : Int → Prop} (h : St c S0 done T) {n : Nat} {v : Int} {t : ByteArray} (hn : n < 6) (hv : fndM (S0.lb 3) noM c.frames n = some v) (hs : t.size = 1024) (hb : ∀ i, i < 1024 → bytS t i = (bL (S0.lb 3) (64 + 1028 * v.toNat + 4 + i)).toNat) (left count : Int) :
    St c S0 (fun x => done x ∨ x = n) ⟨updF T.lb (2 * 0) (onL (1024 * n) t false (T.lb (2 * 0))), T.ws ++ [⟨0, 1024 * n, t, false⟩], left, count, false⟩ := by
  have hK : inK S0 c n := fun e => by rw [hv] at e; cases e
  refine ⟨h.l1, h.l2, h.l3, rfl, h.wait.snoc (.inr (.inl ⟨rfl, rfl, ⟨n, hK, rfl⟩, Nat.le_of_eq hs⟩)), ?_, ?_, ?_, ?_⟩
  · show othF 0 (T.ws ++ [_]) = _
    rw [othF_snoc, if_pos rfl]; exact h.oth
  · show onL (1024 * n) t false (T.lb 0) = foldF 0 (T.ws ++ [_]) (T.lb 1)
    rw [foldF_snoc, if_pos rfl, ← h.fold]
  · intro m hm hk
    exact (h.page m hm hk).trans (pg_write (by omega) (fun e => hk (e ▸ hK)))
  · intro m u hm hd hu
    show 1024 * (m + 1) ≤ (onL (1024 * n) t false (T.lb 0)).length ∧ ∀ i, i < 1024 → bL (onL (1024 * n) t false (T.lb 0)) (1024 * m + i) = _
    by_cases e : m = n
    · subst e
      rw [hv] at hu
      injection hu with hu
      subst hu
      refine ⟨by rw [onL_len, hs]; simp; omega, fun i hi => ?_⟩
      rw [onL_get, if_pos (by omega)]
      have := hb i hi
      rw [← bytS_ll] at this
      rw [show 1024 * m + i - 1024 * m = i by omega]
      exact UInt8.toNat_inj.1 this
    · have hd : done m := by
        rcases hd with hd | hd
        · exact hd
        · exact absurd (by omega) e
      obtain ⟨s1, s2⟩ := h.set m u hm hd hu
      refine ⟨Nat.le_trans s1 onL_ge, fun i hi => ?_⟩
      rw [onL_get, if_neg (by omega)]
      exact s2 i hi
theorem St.cut {c : Cm} {S0 T : DS} {done : Int → Prop} (h : St c S0 done T) (hK : ∃ n, inK S0 c n) (left count : Int) :
    St c S0 done ⟨updF T.lb (2 * 0) (onL 6144 ⟨#[]⟩ true (T.lb (2 * 0))), T.ws ++ [⟨0, 6144, ⟨#[]⟩, true⟩], left, count, false⟩ := by
  refine ⟨h.l1, h.l2, h.l3, rfl, h.wait.snoc (.inr (.inr ⟨rfl, rfl, Nat.le_refl _, hK⟩)), ?_, ?_, ?_, ?_⟩
  · show othF 0 (T.ws ++ [_]) = _
    rw [othF_snoc, if_pos rfl]; exact h.oth
  · show onL 6144 ⟨#[]⟩ true (T.lb 0) = foldF 0 (T.ws ++ [_]) (T.lb 1)
    rw [foldF_snoc, if_pos rfl, ← h.fold]
  · intro m hm hk
    exact (h.page m hm hk).trans (pg_cut (Nat.le_refl _) hm)
  · intro m u hm hd hu
    obtain ⟨s1, s2⟩ := h.set m u hm hd hu
    show 1024 * (m + 1) ≤ (onL 6144 ⟨#[]⟩ true (T.lb 0)).length ∧ ∀ i, i < 1024 → bL (onL 6144 ⟨#[]⟩ true (T.lb 0)) (1024 * m + i) = _
    refine ⟨by rw [onL_len, if_pos rfl]; show _ ≤ 6144 + 0; omega, fun i hi => ?_⟩
    rw [cut_get (by show _ < 6144 + 0; omega)]
    exact s2 i hi
theorem stl_out {L : LS} {S0 : DS} {kept now : Int → Option ByteArray} {m : Nat} (h : Inv L S0 kept now m) (hp : L.last.pages = 6) (hz : (S0.lb 2).length ≤ 67108864) : ∀ (ks : List Int) (done : Int → Prop) (T : DS), St L.last S0 done T → (∀ x ∈ ks, (L.pl x).isSome = true) →
    (∃ T', stlK L ks T = (2, T') ∧ T'.down = true ∧ CrOK T' kept) ∨ (∃ T', stlK L ks T = (0, T') ∧ St L.last S0 (fun x => done x ∨ x ∈ ks) T')
  | [], done, T, hT, _ => .inr ⟨T, rfl, ⟨hT.l1, hT.l2, hT.l3, hT.up, hT.wait, hT.oth, hT.fold, hT.page, fun n v hn hd => hT.set n v hn (by rcases hd with hd | hd; exact hd; cases hd)⟩⟩
  | x :: r, done, T, hT, hks => by
    have hx := hks x (List.mem_cons_self ..)
    have h6 := h.pos x hx
    obtain ⟨n, rfl⟩ : ∃ n : Nat, x = n := ⟨x.toNat, by omega⟩
    obtain ⟨v, hv⟩ := Option.isSome_iff_exists.1 hx
    have hv0 := hv
    rw [h.pl] at hv
    have hlt := fndM_lt hv
    obtain ⟨w, rfl⟩ : ∃ w : Nat, v = w := ⟨v.toNat, by omega⟩
    have hfr := h.fr
    have hlen : 64 + 1028 * L.last.frames ≤ (S0.lb 2).length := by
      have := h.len
      omega
    have hR := rd_ok (lb := T.lb) (f := 1) (p := 64 + 1028 * w + 4) (n := 1024) (by decide) (by show _ ≤ (T.lb 2).length; rw [hT.l2]; omega) (by show (T.lb 2).length ≤ _; rw [hT.l2]; exact hz)
    have ec : ((64 + 1028 * w + 4 : Nat) : Int) = 64 + 1028 * (w : Int) + 4 := by omega
    obtain ⟨t, y, e2, hx', hy⟩ : ∃ t y, rdF T (w : Int) = (t, y) ∧ t = rdS ((1 : Nat) : Int) ((64 + 1028 * w + 4 : Nat) : Int) ((1024 : Nat) : Int) T.lb false ∧ y = rdE ((1 : Nat) : Int) ((64 + 1028 * w + 4 : Nat) : Int) ((1024 : Nat) : Int) T.lb false := by
      unfold rdF
      rw [hT.up, ec]
      exact ⟨_, _, rfl, rfl, rfl⟩
    rw [← hx', ← hy] at hR
    obtain ⟨r1, r2, r3⟩ := hR
    clear hx' hy
    subst r1
    have e2' : rdF T ((L.pl n).getD 0) = (t, 0) := by rw [hv0]; exact e2
    clear e2
    unfold stlK
    generalize rdF T ((L.pl n).getD 0) = z at e2'
    subst e2'
    rw [if_neg (by rw [hp]; omega), if_neg (fun k => k rfl)]
    dsimp only
    rcases op_two hT.up 0 (1024 * n) t false (f := 0) (p := 1024 * (n : Int)) rfl (by omega) (by decide) (by omega) with e | ⟨left, e⟩
    · rw [e, if_pos (by show ¬ (2 : Int) = 0; decide)]
      exact .inl ⟨_, rfl, rfl, hT.crash h.pre.tp h.kv rfl rfl⟩
    · have hS := hT.write (t := t) (n := n) (v := (w : Int)) (by omega) hv r2 (fun i hi => by
        rw [r3 i hi]
        show (bL (T.lb 2) _).toNat = _
        rw [hT.l2, Int.toNat_natCast]
        exact congrArg UInt8.toNat (h.eff.same _ (by omega))) left (T.count + 1)
      rw [e, if_neg (fun k => k rfl)]
      rcases stl_out h hp hz r _ _ hS (fun y hy => hks y (List.mem_cons_of_mem _ hy)) with k | ⟨T', k1, k2⟩
      · exact .inl k
      · refine .inr ⟨T', k1, ⟨k2.l1, k2.l2, k2.l3, k2.up, k2.wait, k2.oth, k2.fold, k2.page, fun n' v' hn hd => k2.set n' v' hn ?_⟩⟩
        rcases hd with hd | hd
        · exact .inl (.inl hd)
        · rcases List.mem_cons.1 hd with hd | hd
          · exact .inl (.inr hd)
          · exact .inr hd
theorem stlL_out {L : LS} {S : DS} {kept now : Int → Option ByteArray} {m : Nat} (h : Inv L S kept now m) (hpg : L.last.pages = 6) (hz : (S.lb 2).length ≤ 67108864) (ks : List Int) (hK : KeysOf L.pl ks) (hex : ∃ n, inK S L.last n) :
    (∃ T, stlL L S ks = (2, T) ∧ T.down = true ∧ CrOK T kept) ∨ (∃ T1 T2, stlL L S ks = (0, T2) ∧ St L.last S (fun x => False ∨ x ∈ ks) T1 ∧ T2.lb 0 = T1.lb 0 ∧ T2.lb 1 = T1.lb 0 ∧ T2.lb 2 = S.lb 2 ∧ T2.lb 3 = S.lb 3 ∧ T2.ws = S.ws ∧ T2.down = false) := by
  unfold stlL
  rcases stl_out h hpg hz ks _ S h.st (fun x hx => ((hK.mem x).1 hx).2) with ⟨T, e, d, c⟩ | ⟨T, e, hT⟩
  · rw [e, if_pos (by show ¬ (2 : Int) = 0; decide)]
    exact .inl ⟨_, rfl, d, c⟩
  · rw [e, if_neg (fun k => k rfl), hpg]
    rcases op_two hT.up 0 6144 ⟨#[]⟩ true (f := 0) (p := 1024 * ((6 : Nat) : Int)) rfl (by decide) (by decide) (by decide) with e1 | ⟨left, e1⟩
    · rw [e1, if_pos (by show ¬ (2 : Int) = 0; decide)]
      exact .inl ⟨_, rfl, rfl, hT.crash h.pre.tp h.kv rfl rfl⟩
    · have hT1 := hT.cut hex left (T.count + 1)
      generalize hg : (⟨updF T.lb (2 * 0) (onL 6144 ⟨#[]⟩ true (T.lb (2 * 0))), T.ws ++ [⟨0, 6144, ⟨#[]⟩, true⟩], left, T.count + 1, false⟩ : DS) = T1 at e1 hT1
      rw [e1, if_neg (fun k => k rfl)]
      clear hg e1 e hT
      rcases syn_two hT1.up 0 (f := 0) rfl (by decide) with e2 | ⟨left', e2⟩
      · rw [e2]
        exact .inl ⟨_, rfl, rfl, hT1.crash h.pre.tp h.kv rfl rfl⟩
      · generalize hg : (⟨updF T1.lb (2 * 0 + 1) (foldF 0 T1.ws (T1.lb (2 * 0 + 1))), othF 0 T1.ws, left', T1.count + 1, false⟩ : DS) = T2 at e2
        rw [e2]
        refine .inr ⟨T1, T2, rfl, hT1, ?_, ?_, ?_, ?_, ?_, ?_⟩
        · rw [← hg]; rfl
        · rw [← hg, hT1.fold]; rfl
        · rw [← hg, ← hT1.l2]; rfl
        · rw [← hg, ← hT1.l3]; rfl
        · rw [← hg]; exact hT1.oth
        · rw [← hg]
theorem ck_out {L : LS} {S : DS} {kept now : Int → Option ByteArray} {m : Nat} (h : Inv L S kept now m) (hz : (S.lb 2).length ≤ 67108864) (ks : List Int) (hks : L.fr = L.last.frames → ¬ L.fr = 0 → KeysOf L.pl ks) :
    (∃ S', ckL L S ks = (2, L, S') ∧ S'.down = true ∧ CrOK S' kept) ∨ (∃ r L' S', ckL L S ks = (r, L', S') ∧ (r = 0 ∨ r = 11) ∧ Inv L' S' kept now m) := by
  unfold ckL
  by_cases h1 : L.fr = L.last.frames
  · rw [if_neg (fun k => k h1)]
    by_cases h2 : L.fr = 0
    · rw [if_pos h2]
      exact .inr ⟨_, _, _, rfl, .inl rfl, h⟩
    · rw [if_neg h2]
      have hK := hks h1 h2
      have hfr := h.fr
      have hpg : L.last.pages = 6 := by have := h.pages; omega
      have hE := h.eff
      have hex : ∃ n, inK S L.last n := by
        refine ⟨frN (S.lb 3) (L.last.frames - 1), fun e => ?_⟩
        obtain ⟨k, hk⟩ : ∃ k, L.last.frames = k + 1 := ⟨L.last.frames - 1, by omega⟩
        rw [hk] at e
        have e : updM (fndM (S.lb 3) noM k) (frN (S.lb 3) k) k (frN (S.lb 3) k) = none := e
        unfold updM at e
        rw [if_pos rfl] at e
        cases e
      rcases stlL_out h hpg hz ks hK hex with ⟨T, e, d, c⟩ | ⟨T1, T2, e, hT1, s0, s1, s2, s3, sw, sd⟩
      · rw [e, if_pos (by show ¬ (2 : Int) = 0; decide)]
        exact .inl ⟨_, rfl, d, c⟩
      · rw [e, if_neg (fun k => k rfl), hpg]
        show (∃ S', (if ¬ (tlL L T2 0 6).1 = 0 then tlL L T2 0 6 else (0, { (tlL L T2 0 6).2.1 with pl := fun _ => none }, (tlL L T2 0 6).2.2)) = _ ∧ _) ∨ (∃ r L' S', (if ¬ (tlL L T2 0 6).1 = 0 then tlL L T2 0 6 else (0, { (tlL L T2 0 6).2.1 with pl := fun _ => none }, (tlL L T2 0 6).2.2)) = _ ∧ _)
        have hpk : ∀ n : Nat, n < 6 → fndM (S.lb 3) noM L.last.frames n = none → PgK (S.lb 1) (T1.lb 0) n := fun n hn k => hT1.page n hn (fun q => q k)
        have hset : ∀ (n : Nat) (v : Int), n < 6 → fndM (S.lb 3) noM L.last.frames n = some v → 1024 * (n + 1) ≤ (T1.lb 0).length ∧ ∀ i, i < 1024 → bL (T1.lb 0) (1024 * n + i) = bL (S.lb 3) (64 + 1028 * v.toNat + 4 + i) := fun n v hn hv =>
          hT1.set n v hn (.inr ((hK.mem n).2 ⟨by
            have hw : (Lit.int .i64 (n : Int)).wf = true := WalkArith.wf_i64 ⟨by omega, by omega⟩
            exact hw, by rw [h.pl, hv]; rfl⟩)) hv
        have hV0 : ∀ log', Vw (T2.lb 1) log' 0 kept := fun log' => by rw [s1]; exact h.kv.settled log' hset hpk
        have hN3 : Vw (S.lb 1) (S.lb 3) L.last.frames now := by
          have := h.nv
          rw [h1] at this
          exact this.keep (fun j _ j2 => (hE.same j j2).symm) (fun n _ _ => PgK.refl _ n)
        have hN0 : ∀ log', Vw (T2.lb 1) log' 0 now := fun log' => by rw [s1]; exact hN3.settled log' hset hpk
        rcases tl_out (L := L) (S := T2) (fr := 0) (pg := 6) (a := 64 + 1028 * L.last.frames) (F := kept) (F' := kept) ⟨by rw [s3]; exact h.pre.tp, by rw [s2, s3, sw]; exact h.pre.seen, by rw [sw]; exact h.pre.wait, sd⟩ (Nat.le_refl _) (by omega) (by decide) (by decide) (.inl rfl)
          (by rw [s1, s3]; exact h.kv.keep (fun _ _ _ => rfl) hpk) (hV0 _) with ⟨S3, e3, d3, c3⟩ | ⟨S3, e3, k0, k1, k2, k3, k4, k5, k6, k7⟩
        · rw [e3]
          exact .inl ⟨_, rfl, d3, fun fa => (c3 fa).elim id id⟩
        · rw [e3]
          simp only [not_true_eq_false, if_false]
          refine .inr ⟨_, _, _, rfl, .inl rfl, ?_⟩
          have hfh : L.fh = fun _ => none := by
            funext x
            cases hx : L.fh x with
            | none => rfl
            | some v => have := h.fh x v hx; omega
          refine ⟨⟨Nat.le_refl _, Nat.zero_le _⟩, .inl rfl, ⟨k5, by rw [k3, ← k2]; rfl, by rw [k3]; exact Wt.nil _ _, k4⟩, by rw [k0, k1, s0, s1], .inr rfl, rfl, ?_, ?_, (fun x v hv => by cases hv), by rw [k1]; exact hV0 _, by rw [k1]; exact hN0 _⟩
          · show mrg (fun _ => none) L.fh = fun _ => none
            rw [hfh]
            rfl
          · intro x v hv
            have hv : L.fh x = some v := hv
            rw [hfh] at hv
            cases hv
  · rw [if_pos h1]
    exact .inr ⟨_, _, _, rfl, .inr rfl, h⟩
end Go.Proofs.YtfjkockcgddgbaaGreat

namespace Go.Proofs.YtfjkockcgddgbaaGreat
theorem op_up2 {lb : Nat → List UInt8} {ws : List Chg} {c f : Int} {t : ByteArray} (b : Bool) (hf : f = 0 ∨ f = 1) (ht : (t.size : Int) ≤ 67108864) : opD ⟨lb, ws, -1, c, false⟩ f 0 t b = (0, ⟨updF lb (2 * f.toNat) (onL 0 t b (lb (2 * f.toNat))), ws ++ [⟨f.toNat, 0, t, b⟩], -1, c + 1, false⟩) := by
  unfold opD
  dsimp only
  rw [if_pos (ask0 hf (by omega) ht), if_neg (show ¬ (-1 : Int) = 0 by decide)]
  rfl
def logN : List UInt8 := ll (markB ++ txtB 1 0 0)
def newS : DS := ⟨updF (updF (fun _ => []) 2 logN) 3 logN, [], -1, 4, false⟩
theorem logN_len : logN.length = 40 := by
  unfold logN
  rw [ll_len, ByteArray.size_append, txtB_size]
  rfl
theorem cut_none : onL 0 (⟨#[]⟩ : ByteArray) true [] = [] := rfl
theorem mark_size : markB.size = 16 := rfl
theorem beg_new : ∃ S1 S2 S3, Beg newD S1 S2 S3 newS 0 := by
  have hs : (markB ++ txtB 1 0 0).size = 40 := logN_len
  have e1 : opD newD 1 0 ⟨#[]⟩ true = (0, ⟨updF (fun _ => []) 2 [], [⟨1, 0, ⟨#[]⟩, true⟩], -1, 1, false⟩) := by
    rw [show newD = ⟨fun _ => [], [], -1, 0, false⟩ from rfl, op_up2 true (.inr rfl) (by decide)]
    rfl
  have u0 : updF (fun _ : Nat => ([] : List UInt8)) 2 [] = fun _ => [] := by funext i; unfold updF; split <;> rfl
  have u1 : updF (fun _ : Nat => ([] : List UInt8)) 3 [] = fun _ => [] := by funext i; unfold updF; split <;> rfl
  rw [u0] at e1
  have e2 : synD ⟨fun _ => [], [⟨1, 0, ⟨#[]⟩, true⟩], -1, 1, false⟩ 1 = (0, ⟨fun _ => [], [], -1, 2, false⟩) := by
    rw [syn_up (.inr rfl)]
    show (0, DS.mk (updF (fun _ => []) 3 []) [] (-1) 2 false) = _
    rw [u1]
  have e3 : opD ⟨fun _ => [], [], -1, 2, false⟩ 1 0 (markB ++ txtB 1 0 0) false = (0, ⟨updF (fun _ => []) 2 logN, [⟨1, 0, markB ++ txtB 1 0 0, false⟩], -1, 3, false⟩) := by
    rw [op_up2 false (.inr rfl) (by rw [hs]; decide)]
    have e : onL 0 (markB ++ txtB 1 0 0) false [] = logN := onL_new _
    show (0, DS.mk (updF (fun _ => []) 2 (onL 0 (markB ++ txtB 1 0 0) false [])) _ (-1) 3 false) = _
    rw [e]
    rfl
  have e4 : synD ⟨updF (fun _ => []) 2 logN, [⟨1, 0, markB ++ txtB 1 0 0, false⟩], -1, 3, false⟩ 1 = (0, newS) := by
    rw [syn_up (.inr rfl)]
    have e : onL 0 (markB ++ txtB 1 0 0) false [] = logN := onL_new _
    show (0, DS.mk (updF (updF (fun _ => []) 2 logN) 3 (onL 0 (markB ++ txtB 1 0 0) false [])) [] (-1) 4 false) = _
    rw [e]
    rfl
  exact ⟨_, _, _, e1, e2, e3, e4⟩
theorem logN_byt {i : Nat} (h : i < 64) : bytS (headP logN) i = bytS (markB ++ txtB 1 0 0) i := by
  rw [headP_byt _ h]
  exact bytS_ll _ _
theorem tp_new : TP logN ⟨0, 1, 0, 0⟩ := by
  have hs : (markB ++ txtB 1 0 0).size = 40 := logN_len
  have hh := headP_size logN
  have ht := txtB_size 1 0 0
  refine ⟨.inl ⟨by rw [logN_len]; decide, by rw [logN_len]; decide⟩, ?_, by decide, by decide, by decide, by decide, ?_, .inl rfl, .inl ?_⟩
  · unfold isMark
    refine decide_eq_true ⟨by rw [hh]; decide, ext_byt (by rw [ByteArray.size_extract, hh, mark_size]; decide) fun i hi => ?_⟩
    rw [ByteArray.size_extract, hh] at hi
    have hi : i < 16 := by omega
    rw [byt_cut (by omega) (by omega), logN_byt (by omega), byt_left (by rw [mark_size]; omega), Nat.zero_add]
  · show (headP logN).extract 16 40 = txtB 1 0 0
    refine ext_byt (by rw [ByteArray.size_extract, hh, ht]; decide) fun i hi => ?_
    rw [ByteArray.size_extract, hh] at hi
    have hi : i < 24 := by omega
    rw [byt_cut (by omega) (by omega), logN_byt (by omega), show 16 + i = markB.size + i from rfl, byt_right]
  · show numB (headP logN) 52 = 0
    have z : ∀ i, i < 4 → bytS (headP logN) (52 + i) = 0 := fun i hi => by
      rw [logN_byt (by omega)]
      unfold bytS
      rw [dif_neg (by omega)]
    have z0 := z 0 (by decide)
    have z1 := z 1 (by decide)
    have z2 := z 2 (by decide)
    have z3 := z 3 (by decide)
    unfold numB numK numK numK numK numK
    rw [z0, z1, z2, z3]
def noP : Int → Option ByteArray := fun _ => none
theorem vw_none (log : List UInt8) : Vw [] log 0 noP := fun _ _ => ⟨(fun v hv => by cases hv), fun _ => ⟨(fun t ht => by cases ht), fun _ _ _ => rfl⟩⟩
theorem inv_new : Inv ⟨⟨0, 1, 0, 0⟩, 0, fun _ => none, fun _ => none⟩ newS noP noP 0 :=
  ⟨⟨Nat.le_refl _, Nat.le_refl _⟩, .inl rfl, ⟨tp_new, rfl, Wt.nil _ _, rfl⟩, rfl, .inr rfl, rfl, rfl, (fun x v hv => by cases hv), (fun x v hv => by cases hv), vw_none _, vw_none _⟩
theorem new_last : lastC (newD.lb 2) = cm0 := rfl
/- what comes of it on a disk of the same bytes -/
theorem GoodS.moved {S : DS} {F : Int → Option ByteArray} {c : Cm} (h : GoodS S F c) (hs : ∀ i < 4, (S.lb i).length ≤ 67108864) : lastC ((mv S 2).lb 2) = c ∧ (mv S 2).down = false ∧ ∀ n : Nat, n < 6 → hasA (opnL ((mv S 2).lb 2)) (mv S 2) F n = true := by
  obtain ⟨m0, m1, m2, m3, m4⟩ := mv_two S hs
  have hM := mv_ok S hs 2 (Nat.le_refl _)
  refine ⟨by rw [m2]; exact h.tp.last, hM.down, fun n hn => ?_⟩
  exact Vw.has (c := c) (by rw [m0, m2]; exact h.vw) (by rw [m2]; exact h.tp) hM.down (by rw [m0]; exact hs 0 (by decide)) (by rw [m2]; exact hs 2 (by decide)) hn
end Go.Proofs.YtfjkockcgddgbaaGreat

namespace Go.Proofs.YtfjkockcgddgbaaGreat
open Go.RowKit Go.Lib Go.Maps
theorem few_of : ∀ {l : List Int} {a : Int} {k : Nat}, l.Pairwise (· < ·) → (∀ x ∈ l, a ≤ x ∧ x < a + k) → l.length ≤ k
  | [], _, _, _, _ => Nat.zero_le _
  | x :: r, a, k, hp, hm => by
    have hx := hm x (List.mem_cons_self ..)
    obtain ⟨j, rfl⟩ : ∃ j, k = j + 1 := ⟨k - 1, by omega⟩
    have := few_of (l := r) (a := x + 1) (k := j) (List.pairwise_cons.1 hp).2 (fun y hy => by
      have h1 := (List.pairwise_cons.1 hp).1 y hy
      have h2 := hm y (List.mem_cons_of_mem _ hy)
      omega)
    rw [List.length_cons]
    omega
theorem MI.small {X : World} {b n k : Nat} {F : Int → Option Int} (h : MI X b n F) (hF : ∀ x, (F x).isSome = true → 0 ≤ x ∧ x < k) : MI X b k F := by
  obtain ⟨D, hown, hK⟩ := h
  refine ⟨D, ?_, hK⟩
  have hk := keys_of hown (List.Perm.refl _) hK
  have hlen : (intKeys D).length ≤ k := by
    rw [← (List.mergeSort_perm (intKeys D) (fun x y => decide (x ≤ y))).length_eq]
    refine few_of (a := 0) hk.sorted (fun x hx => ?_)
    have := hF x ((hk.mem x).1 hx).2
    omega
  obtain ⟨es, clock, hb, hf, hs, rfl⟩ := hown
  refine ⟨es, clock, hb, hf, ?_, rfl⟩
  simpa [intKeys, length_sorted] using hlen
theorem PL.small {X : World} {B D G bp bf n k : Nat} {L : LS} {S : DS} (h : PL X B D G bp bf n L S) (hp : ∀ x, (L.pl x).isSome = true → 0 ≤ x ∧ x < k) (hf : ∀ x, (L.fh x).isSome = true → 0 ≤ x ∧ x < k) : PL X B D G bp bf k L S :=
  ⟨h.blk, h.low, h.dif, h.mp.small hp, h.mf.small hf, h.dsk⟩
end Go.Proofs.YtfjkockcgddgbaaGreat
