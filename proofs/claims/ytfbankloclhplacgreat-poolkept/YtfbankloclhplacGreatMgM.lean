/- package pool: slices.DeleteFunc over isGone, slices.ContainsFunc over isPinned -/
import Derived.Test.YtfbankloclhplacGreatPoL
import Derived.Lib.SlKept
import Derived.Lib.SliceRun
import Derived.Lib.SlicesCompact
namespace Go.Proofs.YtfbankloclhplacGreat
open Go.RowKit Go.Lib Go.Maps Go.Sort Go.Shelf
attribute [local go_sem ↓] Go.wp_at_zero Go.wp_at_succ
set_option maxRecDepth 20000 in
set_option maxHeartbeats 1000000 in
theorem cisGone0 {X : World} {Gp bF k : Nat} {F : Int → Option Nat} (c4 : X.cell? ⟨Gp, 4, none⟩ = some (.map (some bF))) (hM : MF X bF k F) (n : Int) (hn : i64 n) :
    Calls Tryz.prog 191 #[(.pointer (some ⟨Gp, 0, none⟩)), .int .i64 n] X fun e w' => e = .returned (.bool (!(F n).isSome)) ∧ w' = X := by
  have hl := hM.look hn
  generalize (F n).isSome = q at *
  generalize ptrO (F n) = v at *
  clear hM
  go_enter Tryz.func191, Tryz.ntmps191
  go_wp2
  go_ret
  exact ⟨rfl, rfl⟩
set_option maxRecDepth 20000 in
set_option maxHeartbeats 1000000 in
theorem cindexG0 (fv : Value) (a : Option Addr) (c : Nat) (w : World) :
    Calls Tryz.prog 189 #[.slice a 0 c, fv] w fun e w' => e = .returned (.int .i64 (-1)) ∧ w' = w := by
  go_enter Tryz.func189, Tryz.ntmps189
  go_wp2_with fail
  go_loop [5, 8] (fun _ i => i = .int .i64 0) (fun _ _ => 0)
  case atStart => rfl
  case round =>
    subst hrel
    go_wp2
    go_ret
    exact ⟨rfl, rfl⟩
/- no page is pinned -/
set_option maxRecDepth 20000 in
set_option maxHeartbeats 1000000 in
theorem ccontains {w : World} {B D Gp : Nat} {V : PV} {C K : Pgs} {pk m : Nat} (h : PO w B D Gp V C K pk m) :
    Calls Tryz.prog 117 #[V.b.vo, .func (.func 118) #[(.pointer (some ⟨Gp, 0, none⟩))] #[]] w fun e w' => e = .returned (.bool false) ∧ w' = w := by
  have hmo := h.pi.most
  have hpg := h.pi.pg
  have HI : Hid (Calls Tryz.prog 189 #[V.b.vo, .func (.func 118) #[(.pointer (some ⟨Gp, 0, none⟩))] #[]] w fun e w' => e = .returned (.int .i64 (-1)) ∧ w' = w) := by
    by_cases he : V.P.order = []
    · obtain ⟨a, c, hv⟩ := h.pp.vo
      rw [hv, he]
      exact cindexG0 _ a c w
    · obtain ⟨g, cap, e, h1, h2, h3, h4, h5⟩ := h.pp.row he
      rw [e]
      have := cindexP (.pointer (some ⟨Gp, 0, none⟩)) (fun _ => false) g 0 V.P.order.length cap V.P.order w rfl (by omega) (fun j hj => by rw [Nat.zero_add]; exact holds_cell h5 j hj) (fun x hx => by
        obtain ⟨f, hf⟩ := Option.isSome_iff_exists.1 ((h.pi.keys x).1 hx)
        have := h.pi.rng x hx
        exact cisPinned h.pp hf (i64_in (by omega) (by omega)))
      rw [idxF_none (fun _ _ => rfl)] at this
      exact this
  obtain ⟨a, c, hv⟩ := h.pp.vo
  rw [hv] at HI ⊢
  clear h hv
  go_enter Tryz.func117, Tryz.ntmps117
  go_wp2_with fail
  refine HI.out.mono ?_
  rintro e w1 ⟨rfl, hw⟩; rw [hw]; clear hw
  go_wp2
  go_ret
  exact ⟨rfl, rfl⟩
theorem zeroI2 (w : World) : (zeroValue 3).run Tryz.prog w = .ok (.int .i64 0) w := by kernel_rfl
theorem grownBy_put {w : World} {g : Nat} (d : Array Int) : w.grownBy (putRow (Value.int .i64) w g 0 d) (some g) := by
  have := grownBy_sortedI (w := w) (g := g) (n := 0) (os := #[]) d
  rw [grow_empty, ahead_zero] at this
  exact this
set_option maxRecDepth 20000 in
set_option maxHeartbeats 4000000 in
theorem cdelG {X : World} {g Gp bF k cap : Nat} {F : Int → Option Nat} (d : Array Int) (c4 : ∀ W, X.grownBy W (some g) → W.cell? ⟨Gp, 4, none⟩ = some (.map (some bF)) ∧ MF W bF k F) (hH : Holds (Value.int .i64) X g 0 d) (hsz : d.size ≤ 1000) (hcap : d.size ≤ cap) (hi : ∀ x ∈ d.toList, i64 x) :
    Calls Tryz.prog 190 #[.slice (some ⟨g, 0, none⟩) d.size cap, .func (.func 191) #[(.pointer (some ⟨Gp, 0, none⟩))] #[]] X fun e w' => e = .returned (.slice (some ⟨g, 0, none⟩) (d.toList.filter fun x => (F x).isSome).length cap) ∧ w' = putRow (Value.int .i64) X g 0 ((d.toList.filter fun x => (F x).isSome) ++ List.replicate (d.size - (d.toList.filter fun x => (F x).isSome).length) 0).toArray := by
  have tl : ∀ j, j < d.size → d.toList.getD j 0 = d[j]! := fun j hj => by rw [getD_at (by simpa using hj), getElem!_pos d j hj]; simp
  have hrefl : X.grownBy X (some g) := But.refl X (some g)
  have hIF := cindexG (.pointer (some ⟨Gp, 0, none⟩)) (fun x => !(F x).isSome) g 0 d.size cap d.toList X (by simp) (by omega) (fun j hj => by rw [(hH j hj).1, tl j hj]) (fun x hx => cisGone0 (c4 X hrefl).1 (c4 X hrefl).2 x (hi x hx))
  obtain ⟨kp, HK⟩ : ∃ kp : Nat → Bool, Hid (kp = fun j => (F d[j]!).isSome) := ⟨_, rfl⟩
  have hfil : (d.toList.filter fun x => (F x).isSome) = keptUpTo kp d d.size := by rw [HK.out]; exact (keptUpTo_filter (fun x => (F x).isSome) d).symm
  rw [hfil]
  have HH := hide (hH)
  rcases idxF_spec (q := fun x => !(F x).isSome) (l := d.toList) with ⟨e1, hall⟩ | ⟨a, x, r, e0, h2, h3, e1⟩
  · rw [e1] at hIF
    have hkeep : ∀ j, j < d.size → kp j = true := fun j hj => by
      rw [HK.out]
      have := hall d[j]! (by rw [getElem!_pos d j hj]; simp)
      simpa using this
    have e3 : keptUpTo kp d d.size = d.toList := by
      rw [← hfil, List.filter_eq_self]
      intro y hy
      have := hall y hy
      simpa using this
    have HI := hide (hIF)
    rw [e3]
    clear hH hIF hfil tl hrefl c4 hall
    go_enter Tryz.func190, Tryz.ntmps190
    go_wp2_with fail
    refine HI.out.mono ?_
    rintro e w1 ⟨rfl, hw⟩; rw [hw]; clear hw
    go_wp2
    go_ret
    refine ⟨by simp, ?_⟩
    simp only [Array.length_toList, Nat.sub_self, List.replicate_zero, List.append_nil, Array.toArray_toList]
    exact (putRow_self (Value.int .i64) X g 0 d HH.out).symm
  · rw [e1] at hIF
    have hk0 : a.length < d.size := by
      have := congrArg List.length e0
      simp at this
      omega
    have hat : ∀ j, j < d.size → d[j]! = (a ++ x :: r).getD j 0 := fun j hj => by rw [← tl j hj, e0]
    have hkeep : ∀ j, j < a.length → kp j = true := fun j hj => by
      rw [HK.out]
      show (F d[j]!).isSome = true
      rw [hat j (by omega)]
      have : (a ++ x :: r).getD j 0 = a[j] := by simp [List.getD, List.getElem?_append_left hj, List.getElem?_eq_getElem hj]
      rw [this]
      have := h2 a[j] (List.getElem_mem hj)
      simpa using this
    have hdrop : kp a.length = false := by
      rw [HK.out]
      show (F d[a.length]!).isSome = false
      rw [hat a.length hk0]
      have : (a ++ x :: r).getD a.length 0 = x := by simp [List.getD]
      rw [this]
      simpa using h3
    have hne1 : ((a.length : Int) == -1) = false := beq_eq_false_iff_ne.2 (by omega)
    have HC := hide (show ∀ (dk : Array Int) (u : Int), i64 u → Calls Tryz.prog 191 #[(.pointer (some ⟨Gp, 0, none⟩)), .int .i64 u] (putRow (Value.int .i64) X g 0 dk) fun e w' => e = .returned (.bool (!(F u).isSome)) ∧ w' = putRow (Value.int .i64) X g 0 dk from fun dk u hu => cisGone0 (c4 _ (grownBy_put dk)).1 (c4 _ (grownBy_put dk)).2 u hu)
    have HI := hide (hIF)
    have HU := hide (show ∀ j, j < d.size → i64 d[j]! from fun j hj => hi _ (by rw [getElem!_pos d j hj]; simp))
    generalize a.length = k0 at *
    clear hH hIF hfil tl hrefl c4 hat e0 h2 h3 e1 hi
    go_enter Tryz.func190, Tryz.ntmps190
    go_wp2_with fail
    refine HI.out.mono ?_
    rintro e w1 ⟨rfl, hw⟩; rw [hw]; clear hw
    go_wp2_with fail
    go_loopw [5, 6, 7] (fun s5 s6 _ wr => ∃ (i j : Nat) (dk : Array Int), s5 = .int .i64 i ∧ s6 = .int .i64 j ∧ j ≤ d.size ∧ wr = putRow (Value.int .i64) X g 0 dk ∧ Hid (KeptInv kp d j i dk)) (fun _ s6 _ _ => d.size - (intOf s6).toNat)
    case atStart => exact ⟨k0, k0 + 1, d, rfl, by go_num, by omega, (putRow_self (Value.int .i64) X g 0 d HH.out).symm, hide (KeptInv.start hkeep hdrop)⟩
    case round =>
      obtain ⟨i, j, dk, rfl, rfl, hjd, hwr, I2⟩ := hrel
      have hI := I2.out
      have hij := hI.lt
      have hds := hI.size
      have hHk : Holds (Value.int .i64) wr g 0 dk := by rw [hwr]; exact holds_putRow (Value.int .i64) _ g 0 d dk HH.out hds
      have W2 := hide (hwr)
      by_cases hlt : j < d.size
      · have hltz : (j : Int) < (d.size : Int) := by omega
        obtain ⟨cj, _⟩ := hHk j (by omega)
        obtain ⟨ci, fi⟩ := hHk i (by omega)
        rw [hI.high j (by omega), Nat.zero_add] at cj
        rw [Nat.zero_add] at ci fi
        have hcall := HC.out dk d[j]! (HU.out j hlt)
        rw [← hwr] at hcall
        clear hHk hI hwr
        generalize hu : d[j]! = u at cj hcall
        generalize dk[i]! = old at ci
        have C := hide (hu)
        have HCL := hide (hcall)
        clear hu hcall
        cases hq : (F u).isSome with
        | true =>
          rw [hq] at HCL
          go_wp2_with fail
          refine HCL.out.mono ?_
          rintro e w1 ⟨rfl, hw⟩; rw [hw]; clear hw
          go_wp2_with fail
          go_roundw
          case rel =>
            refine ⟨i + 1, j + 1, dk.setIfInBounds i u, by go_num, by go_num, by omega, ?_, hide ?_⟩
            · have := putRow_set (Value.int .i64) X g 0 dk i u (by omega)
              rw [Nat.zero_add] at this
              rw [W2.out, this]
            · have := I2.out.keep hlt (by rw [HK.out]; show (F d[j]!).isSome = true; rw [C.out, hq])
              rwa [C.out] at this
          case measure => simp [intOf]; omega
        | false =>
          rw [hq] at HCL
          go_wp2_with fail
          refine HCL.out.mono ?_
          rintro e w1 ⟨rfl, hw⟩; rw [hw]; clear hw
          go_wp2_with fail
          go_roundw
          case rel => exact ⟨i, j + 1, dk, rfl, by go_num, by omega, W2.out, hide (I2.out.skip (by rw [HK.out]; show (F d[j]!).isSome = false; rw [C.out, hq]))⟩
          case measure => simp [intOf]; omega
      · obtain rfl : j = d.size := by omega
        have hltz : ¬ (d.size : Int) < (d.size : Int) := by omega
        have hcl : ∀ ty, (Builtin.clear_ #[36] ty #[.slice (some ⟨g, i, none⟩) (d.size - i) (cap - i)]).run Tryz.prog wr = .ok (.tuple #[]) (wr.setCells g i (List.replicate (d.size - i) (.int .i64 0))) :=
          fun ty => Lib.run_clear_slice wr _ _ ty _ Tryz.underlying36 zeroI2 rfl rfl g i _ _ (by omega) (fun t ht => by have := (hHk (i + t) (by omega)).1; rw [Nat.zero_add] at this; rw [this]; rfl) (fun t ht => by have := (hHk (i + t) (by omega)).2; rw [Nat.zero_add] at this; exact this)
        have hci : (i : Int) ≤ (cap : Int) := by omega
        have hci2 : (i : Int) ≤ (d.size : Int) := by omega
        clear hHk hI hwr
        go_wp2
        go_ret
        have hI := I2.out
        refine ⟨by rw [hI.len]; rfl, ?_⟩
        have := putRow_setCells (Value.int .i64) X g 0 (List.replicate (d.size - i) 0) dk i (by simp; omega)
        rw [Nat.zero_add] at this
        rw [hI.len, ← hI.done 0, ← this, ← W2.out, List.map_replicate]
end Go.Proofs.YtfbankloclhplacGreat

namespace Go.Proofs.YtfbankloclhplacGreat
open Go.RowKit Go.Lib Go.Maps Go.Sort Go.Shelf
attribute [local go_sem ↓] Go.wp_at_zero Go.wp_at_succ
section
variable {X Y : World} {B D Gp : Nat} {b : Bk} {P : PS} {L : LS} {S : DS}
/- a block that is neither cells nor a map is written -/
theorem PP.iter {r : Nat} (h : PP X B D Gp b P L S) (hg : X.grownBy Y (some r)) (h1 : ∀ cs t f, ¬ X.heap[r]? = some (.cells cs t f)) (h2 : ∀ es k, ¬ X.heap[r]? = some (.map es k)) : PP Y B D Gp b P L S := by
  obtain ⟨k1, k2, k3, k4, k5, k6, k7, k8⟩ := h.kinds
  have nC : ∀ {c : Nat} {t : TypeId}, isC X c t → ¬ c = r := fun hc e => by obtain ⟨cs, hc⟩ := hc; subst e; exact h1 _ _ _ hc
  have nM : ∀ {c : Nat}, isM X c → ¬ c = r := fun hc e => by obtain ⟨es, q, hc⟩ := hc; subst e; exact h2 _ _ hc
  have st : ∀ d, ¬ d = r → d < X.heap.size → Y.heap[d]? = X.heap[d]? := fun d hd hl => hg.block d hl (fun e => by injection e with e; exact hd e)
  exact ⟨(st _ (nC k1) h.lt).trans h.blk, h.log.other hg (fun cur e fz he => absurd he (h1 _ _ _)) (nC k2) (nM k3) (nM k4), h.fmap.keep (st _ (nM k5) h.fmap.lt), h.chm.keep (st _ (nM k6) h.chm.lt), fun n f hf => ⟨(st _ (nC (k7 n f hf)) (h.fcells hf).2.2.2.2.2).trans (h.frs n f hf).1, (h.frs n f hf).2⟩, h.inj, row_keep h.ord fun g hg' => st _ (nC (k8 g hg')) (h.rowblk hg').2.2, h.low, h.dif⟩
theorem ranges_iter {P' : Program} {kt : TypeId} {R : Value → Option (DataW Unit × List MemPlace)} {bb r n cnt : Nat} {D' : DataW Unit} {left : Lit → Bool} (h : X.ranges P' kt R bb r n D' left cnt) : (∀ cs t f, ¬ X.heap[r]? = some (.cells cs t f)) ∧ ∀ es k, ¬ X.heap[r]? = some (.map es k) := by
  obtain ⟨es, clock, since, seen, c0, -, -, -, -, hr, -⟩ := h
  exact ⟨(fun cs t f e => by rw [hr] at e; cases e), (fun es k e => by rw [hr] at e; cases e)⟩
set_option maxRecDepth 20000 in
set_option maxHeartbeats 1000000 in
theorem cdelP (h : PP X B D Gp b P L S) (hl : P.order.length ≤ 64) (hi : ∀ x ∈ P.order, i64 x) :
    Calls Tryz.prog 190 #[b.vo, .func (.func 191) #[(.pointer (some ⟨Gp, 0, none⟩))] #[]] X fun e w' => ∃ a c, e = .returned (.slice a (P.order.filter fun x => (P.fs x).isSome).length c) ∧ w'.ownsRow B 3 1 (.slice a (P.order.filter fun x => (P.fs x).isSome).length c) (P.order.filter fun x => (P.fs x).isSome).length ((P.order.filter fun x => (P.fs x).isSome).map (Value.int .i64)) ∧ X.grownBy w' b.vo.ownBlock ∧ (Value.slice a (P.order.filter fun x => (P.fs x).isSome).length c).ownBlock = b.vo.ownBlock := by
  by_cases he : P.order = []
  · obtain ⟨a, c, hv⟩ := h.vo
    have ho := h.ord
    rw [he] at hv ho ⊢
    rw [hv] at ho ⊢
    go_enter Tryz.func190, Tryz.ntmps190
    go_wp2_with fail
    refine (cindexG0 _ a c X).mono ?_
    rintro e w1 ⟨rfl, hw⟩; rw [hw]; clear hw
    go_wp2
    go_ret
    exact ⟨a, c, rfl, ho, But.refl _ _, rfl⟩
  · obtain ⟨g, cap, e, h1, h2, h3, h4, h5⟩ := h.row he
    have hg : b.vo.ownBlock = some g := by rw [e]; rfl
    have ho := h.ord
    rw [e] at ho
    obtain ⟨k1, k2, k3, k4, k5, k6, k7, k8⟩ := h.kinds
    have := cdelG (Gp := Gp) (bF := b.bF) (k := 65) (F := fun n => (P.fs n).map (·.blk)) (cap := cap) P.order.toArray (fun W hW => ⟨by
        have hb := (hW.block Gp h.lt (fun e => by injection e with e; exact ne_CC (k8 g hg) k1 (by decide) e)).trans h.blk
        simp [World.cell?, hb, poolC], h.fmap.keep (hW.block _ h.fmap.lt (fun e => by injection e with e; exact ne_CM (k8 g hg) k5 e))⟩) h5 (by simp; omega) (by simpa using h3) (by simpa using hi)
    have hF : ∀ x, ((P.fs x).map (·.blk)).isSome = (P.fs x).isSome := fun x => by cases P.fs x <;> rfl
    simp only [hF, List.size_toArray] at this
    rw [e]
    refine this.mono ?_
    rintro r w' ⟨rfl, rfl⟩
    generalize hll : (P.order.filter fun x => (P.fs x).isSome) = l at *
    have hlen : l.length ≤ P.order.length := by rw [← hll]; exact List.length_filter_le ..
    have hrow := ownsRow_putRow (q := 0) (k := l.length) (ys := l ++ List.replicate (P.order.length - l.length) 0) ho (by simp; omega) hlen
    rw [List.take_left' rfl, ahead_zero] at hrow
    exact ⟨_, cap, rfl, hrow, grownBy_put _, rfl⟩
end
def fsL (P : PS) (left : Lit → Bool) : Int → Option FrP := fun n => if P.chg n = true ∧ left (.int .i64 n) = false then none else P.fs n
theorem fsL_next {P : PS} {left : Lit → Bool} {x : Int} (hx : P.chg x = true) : fsL P (fun z => left z && !z.sameKey (.int .i64 x)) = delR (fsL P left) x := by
  funext n
  unfold fsL delR
  by_cases e : n = x
  · subst e; simp [hx, Lit.sameKey]
  · have : (Lit.int .i64 n).sameKey (.int .i64 x) = false := sameKey_ne (fun h => by injection h with _ h; exact e h)
    simp [this, e]
def fgP (P : PS) : PS := { P with fs := fun n => if P.chg n = true then none else P.fs n, order := P.order.filter (fun n => !P.chg n), chg := fun _ => false }
set_option maxRecDepth 100000 in
set_option maxHeartbeats 4000000 in
theorem cforget {X : World} {B D Gp : Nat} {b : Bk} {P : PS} {L : LS} {S : DS} (h : PP X B D Gp b P L S) (hB : B ≤ X.heap.size) (hl : P.order.length ≤ 64) (hi : ∀ x ∈ P.order, i64 x ∧ (P.fs x).isSome = true) (hc : ∀ x, P.chg x = true → i64 x) :
    Calls Tryz.prog 119 #[(.pointer (some ⟨Gp, 0, none⟩))] X fun e w' => ∃ b', e = .returned (.tuple #[]) ∧ PP w' B D Gp b' (fgP P) L S ∧ BelP b.M b'.M B X w' ∧ b'.G = b.G ∧ b'.bp = b.bp ∧ b'.bf = b.bf := by
  obtain ⟨DU, hown, HKU⟩ := h.chm
  have hbl := hown.lt
  have HKK := hide (HKU)
  have HP := hide (h)
  have HB0 := hide (hB)
  have HI := hide (hi)
  have HCH := hide (hc)
  have hmm := @run_makeMap Tryz.prog
  obtain ⟨c0, c1, c2, c3, c4, c5, c6, c7, c8, c9⟩ := h.cells
  clear h HKU c0 c1 c2 c3 c4 c5 c7 c8 c9 hi hc hB
  go_enter Tryz.func119, Tryz.ntmps119
  go_wp2_with (first
    | (at_range; refine wpList_range_own _ rfl _ 163 rfl 3 256 lawI Tryz.underlying163 _ b.bC 60000 _ rfl hown ?_; intro w0 hrg0 hg0 hs0)
    | go_in)
  try go_frame
  have hb0 : Below X.heap.size X w0 := ⟨hg0.os, hg0.tape, hg0.output, hg0.size, fun i hi => hg0.block i hi (by simp)⟩
  have HP0 := hide (show PP w0 B D Gp b { P with fs := fsL P (Maps.has DU) } L S from by
    have hfs : fsL P (Maps.has DU) = P.fs := by
      funext n
      unfold fsL
      rw [if_neg]
      rintro ⟨k1, k2⟩
      have := HKK.out n (HCH.out n k1)
      rw [k2, k1] at this
      cases this
    rw [hfs]
    exact HP.out.below hb0)
  have HBL0 := hide (show BelP b.M b.M B X w0 from below_belP hb0 HB0.out _)
  clear hg0 hb0
  go_loopw [2] (fun _ wr => ∃ (left : Lit → Bool) (cnt : Nat), wr.ranges Tryz.prog 3 unitElem b.bC X.heap.size 60000 DU left cnt ∧ Hid (∀ x, i64 x → left (.int .i64 x) = true → Maps.has DU (.int .i64 x) = true) ∧ Hid (PP wr B D Gp b { P with fs := fsL P left } L S) ∧ Hid (BelP b.M b.M B X wr)) (fun _ wr => wr.rangeLeft b.bC X.heap.size)
  case atStart => exact ⟨_, _, hrg0, hide (fun x _ h => h), HP0, HBL0⟩
  case round =>
    obtain ⟨left, cnt, hrg, HLF, HPr, HBr⟩ := hrel
    clear hrg0 hs0 HP0 HBL0
    go_wp2_with (first
      | (at_next; refine wpList_next_unit _ rfl _ rfl b.bC X.heap.size 60000 DU left cnt rfl hrg ?_ ?_)
      | go_in)
    · intro hc0 hl0
      have hPF : PP wr B D Gp b { P with fs := fun n => if P.chg n = true then none else P.fs n } L S := by
        have : fsL P left = fun n => if P.chg n = true then none else P.fs n := by
          funext n
          unfold fsL
          rw [hl0]
          simp
        have h1 := HPr.out
        rw [this] at h1
        exact h1
      have HPF := hide (hPF)
      have HDP := hide (cdelP hPF hl (fun x hx => (HI.out x hx).1))
      have hfil : (P.order.filter fun x => (if P.chg x = true then none else P.fs x : Option FrP).isSome) = P.order.filter (fun n => !P.chg n) := List.filter_congr fun x hx => by
        have := (HI.out x hx).2
        cases hq : P.chg x <;> simp [this]
      dsimp only at HDP
      rw [hfil] at HDP
      generalize hll : (P.order.filter fun n => !P.chg n) = l at *
      have HLL := hide (hll)
      clear hll
      obtain ⟨d0, d1, d2, d3, d4, d5, d6, d7, d8, d9⟩ := hPF.cells
      obtain ⟨oa, oc, hvo⟩ := hPF.vo
      dsimp only at hvo
      rw [hvo] at d5
      have HVO := hide (hvo)
      rw [hvo] at HDP
      have HLB := hide (show B ≤ wr.heap.size from Nat.le_trans HB0.out HBr.out.size)
      clear hPF hfil d0 d1 d2 d3 d4 d7 d8 d9 hvo hrg HLF HPr
      go_wp2_with fail
      refine HDP.out.mono ?_
      rintro e w6 ⟨a6, c6, rfl, q1, q2, q3⟩
      have hr := HPF.out.reord (l := l) HLB.out (by rw [HVO.out]; exact q2) q1 (.inl (by rw [HVO.out]; exact q3))
      have hbG : w6.heap[Gp]? = some (.cells (poolC b { P with fs := fun n => if P.chg n = true then none else P.fs n }) 165 (0, 0)) := by
        refine (q2.block Gp HPF.out.lt (fun e => ?_)).trans HPF.out.blk
        exact ne_CC (HPF.out.kinds.2.2.2.2.2.2.2 Gp (by rw [HVO.out]; exact e.symm)) HPF.out.kinds.1 (by decide) rfl
      have x5 := hr.2.2.1
      rw [HVO.out] at x5
      have y5 := hr.2.2.2.1
      have hGp := hr.2.2.2.2
      have x6 : w6.cell? ⟨Gp, 6, none⟩ = some (.map (some b.bC)) := by simp [World.cell?, hbG, poolC]
      have y6 : w6.frozen? ⟨Gp, 6, none⟩ = false := by simp [World.frozen?, hbG]
      obtain ⟨hp7, hb7⟩ := hr.1.newset (Nat.le_trans HLB.out hr.2.1.size)
      have hz5 : (w6.setCell ⟨Gp, 5, none⟩ (.slice a6 l.length c6)).heap.size = w6.heap.size := by simp
      rw [World.setCell_alloc_past _ _ _ _ (by rw [hz5]; exact hGp), hz5] at hp7 hb7
      have HP7 := hide (hp7)
      have HB7 := hide (HBr.out.trans (hr.2.1.trans hb7))
      clear hr hp7 hb7 hz5 hbG q1 q2 q3 HDP d5 d6
      go_wp2
      go_end0
      exact ⟨_, rfl, by unfold fgP; rw [HLL.out]; exact HP7.out, HB7.out, rfl, rfl, rfl⟩
    · intro x w5 cnt1 hwx hlx hrg1 hlt hg1 hs1 hen
      have HCX := hide (show P.chg x = true by rw [← HKK.out x hwx]; exact HLF.out x hwx hlx)
      have hP5 := HPr.out.iter hg1 (ranges_iter hrg).1 (ranges_iter hrg).2
      obtain ⟨Y, hrun, hM, hgY⟩ := hP5.fmap.drop (x := x) hwx 0
      have HPY := hide (show PP Y B D Gp b { P with fs := fsL P (fun z => left z && !z.sameKey (.int .i64 x)) } L S from by
        rw [fsL_next HCX.out]
        exact hP5.drop hgY hM)
      have HB5 := hide (show BelP b.M b.M B X Y from (HBr.out.other hg1 (Nat.le_refl _) HB0.out).trans (hP5.fmaps_bel hgY (Nat.le_trans HB0.out (Nat.le_trans HBr.out.size hg1.size))))
      have hrg2 := hrg1.kept hgY (fun e => by injection e with e; exact hP5.dif.1 e.symm) (fun e => by injection e with e; have := HP.out.fmap.lt; omega)
      have HLF2 := hide (show ∀ y, i64 y → (left (.int .i64 y) && !(Lit.int .i64 y).sameKey (.int .i64 x)) = true → Maps.has DU (.int .i64 y) = true from fun y hy k => HLF.out y hy (by simp at k; exact k.1))
      obtain ⟨d0, d1, d2, d3, d4, d5, d6, d7, d8, d9⟩ := hP5.cells
      clear hP5 hM hgY d0 d1 d2 d3 d5 d6 d7 d8 d9 hs1
      go_wp2_with fail
      go_roundw
      case rel => exact ⟨_, cnt1, hrg2, HLF2, HPY, HB5⟩
      case measure => rw [hrg2.left_eq, hrg.left_eq]; exact hlt
end Go.Proofs.YtfbankloclhplacGreat

namespace Go.Proofs.YtfbankloclhplacGreat
open Go.RowKit Go.Lib Go.Maps Go.Sort Go.Shelf
attribute [local go_sem ↓] Go.wp_at_zero Go.wp_at_succ
set_option maxRecDepth 20000 in
set_option maxHeartbeats 4000000 in
theorem crollback {w : World} {B D Gp : Nat} {V : PV} {C K : Pgs} {pk m : Nat} (h : PO w B D Gp V C K pk m) (hm : m ≤ 49000) {frk : Nat} (hf : frk ≤ 2147483647) (hK : K 0 = some (pgB 4 frk)) :
    Calls Tryz.prog 50 #[(.pointer (some ⟨Gp, 0, none⟩))] w fun e w' => ∃ V', PO w' B D Gp V' K K pk m ∧ St2 w w' B V V' ∧ V'.P.pages = pk ∧ ((e = .returned (.int .i64 0) ∧ V'.P.free = frk) ∨ (e = .returned (.int .i64 2) ∧ V'.S.down = true)) := by
  obtain ⟨c0, c1, c2, c3, c4, c5, c6, c7, c8, c9⟩ := h.pp.cells
  obtain ⟨oa, oc, hvo⟩ := h.pp.vo
  rw [hvo] at c5
  have HCN := hide (ccontains h)
  rw [hvo] at HCN
  have HP := hide (h)
  have hpg := h.pi.pg
  have hmo := h.pi.most
  have HBK := hide (cback w B D V.b.G V.b.bp V.b.bf 60000 V.L V.S h.pp.log h.lo)
  have HKK := hide (hK)
  clear h c1 c2 c3 c4 c6 c7 c8 c9 hvo hK
  go_enter Tryz.func50, Tryz.ntmps50
  go_wp2_with fail
  refine HCN.out.mono ?_
  rintro e w1 ⟨rfl, hw⟩; rw [hw]; clear hw
  go_wp2_with fail
  refine HBK.out.mono ?_
  rintro e w2 ⟨rfl, hp2, hb2⟩
  have hP2 : PP w2 B D Gp V.b V.P (bkL V.L) V.S := HP.out.pp.logs hb2 hp2
  have HB2 := hide (HP.out.pp.belL hb2)
  have hr := HP.out.pi.rng
  have HFG := hide (cforget hP2 (Nat.le_trans HP.out.lo HB2.out.size) (by omega) (fun x hx => ⟨by have := hr x hx; exact i64_in (by omega) (by omega), (HP.out.pi.keys x).1 hx⟩) (fun x hx => by have := HP.out.pi.chr x hx; exact i64_in (by omega) (by omega)))
  clear hp2 hb2 hP2 HBK HCN hr
  go_wp2_with fail
  refine HFG.out.mono ?_
  rintro e w3 ⟨b', rfl, q1, q2, q3, q4, q5⟩
  obtain ⟨d0, d1, d2, d3, d4, d5, d6, d7, d8, d9⟩ := q1.cells
  have z2 := q1.unfrozen 2
  have hlst : (bkL V.L).last.pages = pk := HP.out.pi.last
  have HPG := hide (cpages w3 B D b'.G b'.bp b'.bf 60000 (bkL V.L) V.S q1.log)
  rw [hlst] at HPG
  have HQ1 := hide (q1)
  have HQ2 := hide (HB2.out.trans q2)
  have h4 : PP (w3.setCell ⟨Gp, 2, none⟩ (.int .i64 (pk : Int))) B D Gp b' { fgP V.P with pages := pk } (bkL V.L) V.S := q1.own rfl rfl rfl rfl
  have hO4 : PO (w3.setCell ⟨Gp, 2, none⟩ (.int .i64 (pk : Int))) B D Gp ⟨b', { fgP V.P with pages := pk }, bkL V.L, V.S, K⟩ K K pk m := ⟨h4, HP.out.pi.back, Nat.le_trans HP.out.lo (Nat.le_trans HQ2.out.size (set_grown w3 Gp 2 _).size)⟩
  have HO4 := hide (hO4)
  have HS4 := hide (show St2 w (w3.setCell ⟨Gp, 2, none⟩ (.int .i64 (pk : Int))) B V ⟨b', { fgP V.P with pages := pk }, bkL V.L, V.S, K⟩ from ⟨HQ2.out.trans (q1.own_bel 2 _ (Nat.le_trans HP.out.lo HQ2.out.size)), id⟩)
  have HOP := hide (copened hO4 (by omega) 0 (by omega) (by show (0 : Int) < (pk : Int); omega) (kd := 4) (lk := frk) ⟨by decide, by decide⟩ hf HKK.out)
  clear q1 q2 q3 q4 q5 h4 hO4 HFG d1 d3 d4 d5 d6 d7 d8 d9 hlst c0 c5
  generalize hW4 : w3.setCell ⟨Gp, 2, none⟩ (.int .i64 (pk : Int)) = w4 at *
  go_wp2_with fail
  refine HPG.out.mono ?_
  rintro e w3 ⟨rfl, hw⟩; rw [hw]; clear hw
  go_wp2_with fail
  refine HOP.out.mono ?_
  rintro e w5 ⟨V5, k1, k2, k3, k4, (⟨a, c, rfl⟩ | ⟨rfl, k5⟩)⟩
  · have hp6 := (k1.below (show Below w5.heap.size w5 (w5.alloc (.cells #[.int .i64 4, .int .i64 frk, .slice a 0 c] 159)) from ((Below.refl _ _).alloc (Nat.le_refl _) _)))
    obtain ⟨e0, e1, e2, e3, e4, e5, e6, e7, e8, e9⟩ := k1.pp.cells
    have z3 := k1.pp.unfrozen 3
    have hG5 := k1.pp.lt
    have hp7 : PO ((w5.alloc (.cells #[.int .i64 4, .int .i64 frk, .slice a 0 c] 159)).setCell ⟨Gp, 3, none⟩ (.int .i64 (frk : Int))) B D Gp ⟨V5.b, { V5.P with free := frk }, V5.L, V5.S, V5.N⟩ K K pk m := ⟨hp6.1.pp.own rfl rfl rfl rfl, hp6.1.pi.stat _ _ _ _, Nat.le_trans hp6.1.lo (set_grown _ Gp 3 _).size⟩
    have hs7 : St2 w ((w5.alloc (.cells #[.int .i64 4, .int .i64 frk, .slice a 0 c] 159)).setCell ⟨Gp, 3, none⟩ (.int .i64 (frk : Int))) B V ⟨V5.b, { V5.P with free := frk }, V5.L, V5.S, V5.N⟩ := (HS4.out.trans (k2.trans hp6.2)).trans (⟨hp6.1.pp.own_bel 3 _ hp6.1.lo, id⟩ : St2 _ _ B V5 ⟨V5.b, { V5.P with free := frk }, V5.L, V5.S, V5.N⟩)
    rw [World.setCell_alloc_past _ _ _ _ hG5] at hp7 hs7
    have HP7 := hide (hp7)
    have HS7 := hide (hs7)
    have HK := hide (show V5.P.pages = pk from k3)
    clear k1 k2 k3 k4 hp6 hp7 hs7 HOP e0 e1 e2 e4 e5 e6 e7 e8 e9
    go_wp2
    go_ret
    exact ⟨_, HP7.out, HS7.out, HK.out, .inl ⟨rfl, rfl⟩⟩
  · have HP5 := hide (k1)
    have HK := hide (show St2 w w5 B V V5 ∧ V5.P.pages = pk ∧ V5.S.down = true from ⟨HS4.out.trans k2, k3, k5⟩)
    clear k1 k2 k3 k4 k5 HOP
    go_wp2
    go_ret
    exact ⟨V5, (HP5.out.below (((Below.refl _ _).alloc (Nat.le_refl _) _))).1, HK.out.1.trans (HP5.out.below (((Below.refl _ _).alloc (Nat.le_refl _) _))).2, HK.out.2.1, .inr ⟨rfl, HK.out.2.2⟩⟩
end Go.Proofs.YtfbankloclhplacGreat
