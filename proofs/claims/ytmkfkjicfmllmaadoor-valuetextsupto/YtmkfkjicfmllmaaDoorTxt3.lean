/- relstoreref.whole -/
import Derived.Test.YtmkfkjicfmllmaaDoorLonV
import Derived.Test.YtmkfkjicfmllmaaDoorTxt2
namespace Go.Proofs.YtmkfkjicfmllmaaDoor
open Go.RowKit
attribute [local go_sem ↓] Go.wp_at_zero Go.wp_at_succ
theorem ctimesN (va vb : Value) (x y : Int) (w : World) (hA : DgS 300000 w va x) (hB : DgS 5 w vb y) :
    Calls Tryd.prog 29 #[.agg #[.bool false, va], .agg #[.bool false, vb]] w fun e w' => ∃ a k c, e = .returned (.agg #[.bool false, .slice a k c]) ∧ DgS 300010 w' (.slice a k c) (x * y) ∧ Below w.heap.size w w' := by
  obtain ⟨a, n, cap, f, rfl, hn, -, dA, vf, nf, rfl⟩ := hA
  obtain ⟨a', m, cap', g, rfl, hm, -, dB, vg, ng, rfl⟩ := hB
  refine (ctimes0 false false a n cap a' m cap' f g w dA dB (by omega) hm vf vg).mono ?_
  rintro e w' ⟨v, h1, h2, h3⟩
  have h2' := h2
  obtain ⟨a2, k2, c2, f2, rfl, -⟩ := h2'
  exact ⟨a2, k2, c2, h1, h2.mono (by omega), h3⟩
theorem cplusN (va vb : Value) (x y : Int) (w : World) (hA : DgS 300010 w va x) (hB : DgS 5 w vb y) :
    Calls Tryd.prog 31 #[.agg #[.bool false, va], .agg #[.bool false, vb]] w fun e w' => ∃ a k c, e = .returned (.agg #[.bool false, .slice a k c]) ∧ DgS 300011 w' (.slice a k c) (x + y) ∧ Below w.heap.size w w' := by
  obtain ⟨a, n, cap, f, rfl, hn, -, dA, vf, nf, rfl⟩ := hA
  obtain ⟨a', m, cap', g, rfl, hm, -, dB, vg, ng, rfl⟩ := hB
  refine (cplus_same false a n cap a' m cap' f g w dA dB (by omega) (by omega) vf vg).mono ?_
  rintro e w' ⟨v, h1, h2, h3⟩
  have h2' := h2
  obtain ⟨a2, k2, c2, f2, rfl, -⟩ := h2'
  exact ⟨a2, k2, c2, h1, h2.mono (by omega), h3⟩
theorem clongP (x : Int) (w : World) (h0 : 0 ≤ x) (hx : fits x = true) :
    Calls Tryd.prog 30 #[.int .i64 x] w fun e w' => ∃ a k c, e = .returned (.agg #[.bool false, .slice a k c]) ∧ DgS 5 w' (.slice a k c) x ∧ Below w.heap.size w w' := by
  refine (clongOf x w hx).mono ?_
  rintro e w' ⟨v, h1, h2, h3⟩
  rw [decide_eq_false (by omega)] at h1
  rw [Int.natAbs_of_nonneg h0] at h2
  have h2' := h2
  obtain ⟨a2, k2, c2, f2, rfl, -⟩ := h2'
  exact ⟨a2, k2, c2, h1, h2, h3⟩
theorem Box2.put {X : World} {b : Nat} {t : TypeId} {x y : Value} (h : Box2 X b t x y) (x' y' : Value) : Box2 ((X.setCell ⟨b, 0, none⟩ x').setCell ⟨b, 1, none⟩ y') b t x' y' := by
  have h1 : Box2 (X.setCell ⟨b, 0, none⟩ x') b t x' y := by
    obtain ⟨hlt, hk⟩ := Array.getElem?_eq_some_iff.1 h
    show (X.heap.modify b _)[b]? = _
    rw [Array.getElem?_eq_getElem (by rw [Array.size_modify]; exact hlt), Array.getElem_modify_self, hk]
    rfl
  exact h1.set y'
theorem Box2.set0w {X : World} {b : Nat} {t : TypeId} {x y : Value} (h : Box2 X b t x y) (x' : Value) : Box2 (X.setCell ⟨b, 0, none⟩ x') b t x' y := by
  obtain ⟨hlt, hk⟩ := Array.getElem?_eq_some_iff.1 h
  show (X.heap.modify b _)[b]? = _
  rw [Array.getElem?_eq_getElem (by rw [Array.size_modify]; exact hlt), Array.getElem_modify_self, hk]
  rfl
theorem empB (s : ByteArray) : s.toList.isEmpty = decide (s.size = 0) := by
  rw [ByteArray.toList_eq]
  cases h : s.data.toList with
  | nil =>
    have : s.size = 0 := by rw [← ByteArray.size_data, ← Array.length_toList, h]; rfl
    simp [this]
  | cons x l =>
    have : ¬ s.size = 0 := by rw [← ByteArray.size_data, ← Array.length_toList, h]; simp
    simp [this]
theorem DgS.set {K : Nat} {w : World} {v : Value} {x : Int} (h : DgS K w v x) {A o : Nat} {u : Value} (hc : w.cell? ⟨A, o, none⟩ = some u) (hu : ∀ x, u ≠ .int .i64 x) (y : Value) : DgS K (w.setCell ⟨A, o, none⟩ y) v x := by
  obtain ⟨a, k, cap, f, e, h1, h2, h3, h4⟩ := h
  exact ⟨a, k, cap, f, e, h1, h2, h3.set hc hu y, h4⟩
/- a number below ten to the i has no more than so many digits -/
def tenP (i : Nat) : Int := 10 ^ i
theorem tenP_s (i : Nat) : tenP (i + 1) = 10 * tenP i := by unfold tenP; rw [Int.pow_succ]; omega
theorem tenP_pos (i : Nat) : 0 < tenP i := by
  induction i with
  | zero => decide
  | succ i ih => rw [tenP_s]; omega
theorem tenP_mono {i j : Nat} (h : i ≤ j) : tenP i ≤ tenP j := by
  induction j with
  | zero => rw [show i = 0 by omega]; exact Int.le_refl _
  | succ j ih =>
    by_cases e : i = j + 1
    · rw [e]; exact Int.le_refl _
    · have := ih (by omega)
      have := tenP_pos j
      rw [tenP_s]; omega
theorem pw_ten (i : Nat) : pw i = tenP (4 * i) := by
  induction i with
  | zero => rfl
  | succ i ih => rw [pw_s, ih, show 4 * (i + 1) = 4 * i + 1 + 1 + 1 + 1 by omega, tenP_s, tenP_s, tenP_s, tenP_s]; omega
theorem DgS.few {K i : Nat} {w : World} {v : Value} {x : Int} (h : DgS K w v x) (hx : x < tenP i) : DgS (i / 4 + 1) w v x := by
  obtain ⟨a, k, cap, f, e, h1, h2, h3, h4, h5, h6⟩ := h
  refine ⟨a, k, cap, f, e, ?_, h2, h3, h4, h5, h6⟩
  by_cases hk : k = 0
  · omega
  · have hl := norm_low h4 h5 (by omega)
    rw [h6, pw_ten] at hl
    rcases Nat.lt_or_ge (4 * (k - 1)) i with hh | hh
    · omega
    · have := tenP_mono hh
      omega
theorem undrew_b {w X : World} {m : Nat} (h : Below (w.drewN m).heap.size (w.drewN m) X) : Below w.heap.size w X := ⟨h.os, h.tape, h.output, h.size, h.block⟩
theorem fits_in {z : Int} (h0 : -1000 ≤ z) (h1 : z ≤ 1000) : fits z = true := by
  unfold fits
  rw [decide_eq_true (show lo ≤ z by unfold lo; omega), decide_eq_true (show z ≤ hi by unfold hi; omega)]; rfl
/- what the digits of a text say -/
def dgt (c : UInt8) : Bool := decide (48 ≤ c.toNat) && decide (c.toNat ≤ 57)
def dval (d : ByteArray) : Nat → Int
  | 0 => 0
  | i + 1 => 10 * dval d i + (if h : i < d.size then ((d[i]'h).toNat : Int) - 48 else 0)
theorem dval_s {d : ByteArray} {i : Nat} (h : i < d.size) : dval d (i + 1) = dval d i * 10 + (((d[i]'h).toNat : Int) - 48) := by
  show 10 * dval d i + (if h : i < d.size then ((d[i]'h).toNat : Int) - 48 else 0) = _
  rw [dif_pos h]; omega
theorem wcell {X : World} {b : Nat} {t : TypeId} {x y z : Value} (h : X.heap[b]? = some (.cells #[x, y, z] t (0, 0))) : X.cell? ⟨b, 0, none⟩ = some x ∧ X.cell? ⟨b, 1, none⟩ = some y ∧ X.cell? ⟨b, 2, none⟩ = some z ∧ X.frozen? ⟨b, 0, none⟩ = false ∧ X.frozen? ⟨b, 1, none⟩ = false ∧ X.frozen? ⟨b, 2, none⟩ = false := by
  refine ⟨?_, ?_, ?_, ?_, ?_, ?_⟩ <;> simp [World.cell?, World.frozen?, h]
def wholeV (neg : Bool) (d : ByteArray) : Value := if d.size = 0 then (.agg #[.int .i64 (0), .int .i64 (0), .string (⟨#[]⟩)]) else if (∀ i (h : i < d.size), dgt (d[i]'h) = true) then numV (sg neg (dval d d.size)) else (.agg #[.int .i64 (0), .int .i64 (0), .string (⟨#[]⟩)])
theorem wholeV_no {neg : Bool} {d : ByteArray} {i : Nat} (hi : i < d.size) (hc : ¬ dgt (d[i]'hi) = true) : wholeV neg d = (.agg #[.int .i64 (0), .int .i64 (0), .string (⟨#[]⟩)]) := by
  unfold wholeV
  rw [if_neg (by omega), if_neg (fun h => hc (h i hi))]
theorem wholeV_all {neg : Bool} {d : ByteArray} (h0 : ¬ d.size = 0) (h : ∀ i (h : i < d.size), dgt (d[i]'h) = true) : wholeV neg d = numV (sg neg (dval d d.size)) := by
  unfold wholeV
  rw [if_neg h0, if_pos h]
theorem wholeV_nil {neg : Bool} {d : ByteArray} (h0 : d.size = 0) : wholeV neg d = (.agg #[.int .i64 (0), .int .i64 (0), .string (⟨#[]⟩)]) := if_pos h0
set_option maxRecDepth 20000 in
set_option maxHeartbeats 4000000 in
theorem rwholeN (s d : ByteArray) (w : World) (hs : s.size ≤ 1048576) (h0 : 0 < s.size) (h1 : (s[0]'h0).toNat = 45) (hd : d = s.extract 1 s.size) :
    Calls Tryd.prog 24 #[.string s] w fun e w' => e = .returned (wholeV true d) ∧ Below w.heap.size w w' := by
  have hE : s.toList.isEmpty = false := by rw [empB, decide_eq_false (by omega)]
  have hEl : ¬ s.toList = [] := by simpa using hE
  have b45 : (((s[0]'h0).toNat : Int) == 45) = true := by simp [h1]
  have k1 : (0 : Int) < (s.size : Int) := by omega
  have k2 : (1 : Int) ≤ (s.size : Int) := by omega
  have hds : d.size + 1 = s.size := by rw [hd, ByteArray.size_extract]; omega
  go_enter Tryd.func24, Tryd.ntmps24
  go_wp2_with fail
  rw [← hd]
  have HDD : Hid _ := hd
  clear hd
  have hW2 : ((w.alloc (.cells #[.int .i64 0, .int .i64 0, .string ⟨#[]⟩] 23)).alloc (.cells #[.bool false, .slice none 0 0] 45)).heap.size = w.heap.size + 1 + 1 := by simp
  have nb : Box2 ((w.alloc (.cells #[.int .i64 0, .int .i64 0, .string ⟨#[]⟩] 23)).alloc (.cells #[.bool false, .slice none 0 0] 45)) (w.heap.size + 1) 45 (.bool false) (.slice none 0 0) := by
    have := Box2.new (w.alloc (.cells #[.int .i64 0, .int .i64 0, .string ⟨#[]⟩] 23)) 45 (.bool false) (.slice none 0 0)
    simpa using this
  have NB : Hid _ := nb
  clear hW2 nb
  go_loopw [5] (fun u X => ∃ (i : Nat) (a : Option Addr) (k c : Nat), u = .int .i64 i ∧ i ≤ d.size ∧ Hid (Box2 X (w.heap.size + 1) 45 (.bool false) (.slice a k c)) ∧ Hid (DgS (i / 4 + 1) X (.slice a k c) (dval d i)) ∧ Hid (0 ≤ dval d i ∧ dval d i < tenP i) ∧ Hid (∀ j (h : j < d.size), j < i → dgt (d[j]'h) = true) ∧ Hid (X.heap[w.heap.size]? = some (.cells #[.int .i64 0, .int .i64 0, .string ⟨#[]⟩] 23 (0, 0))) ∧ Hid (Below w.heap.size w X)) (fun u _ => d.size - (intOf u).toNat)
  case atStart =>
    refine ⟨0, none, 0, 0, rfl, Nat.zero_le _, NB, ⟨none, 0, 0, fun _ => 0, rfl, by omega, Nat.le_refl _, Or.inl rfl, fun i hi => absurd hi (by omega), Or.inl rfl, rfl⟩, ⟨Int.le_refl _, (by decide : (0 : Int) < 1)⟩, fun j h hj => by omega, ?_, (((Below.refl _ _).alloc (Nat.le_refl _) _).alloc (by simp) _)⟩
    have := heap_alloc_new w (.cells #[.int .i64 0, .int .i64 0, .string ⟨#[]⟩] 23)
    exact (heap_alloc_old (w.alloc (.cells #[.int .i64 0, .int .i64 0, .string ⟨#[]⟩] 23)) (.cells #[.bool false, .slice none 0 0] 45) (by simp)).trans this
  case round =>
    clear NB
    obtain ⟨i, a, k, c, rfl, hin, HX, HD, HV, HG, HO, HB⟩ := hrel
    by_cases hlt : i < d.size
    · have kk : (i : Int) < (d.size : Int) := by omega
      have kz : (0 : Int) ≤ (i : Int) := by omega
      have n0 := HX.out.cell0
      have n1 := HX.out.cell1
      have q0 := HX.out.frozen 0
      have q1 := HX.out.frozen 1
      obtain ⟨y, hy⟩ : ∃ y : Int, y = ((d[i]'hlt).toNat : Int) := ⟨_, rfl⟩
      have hyy : Hid _ := hy
      by_cases hc : dgt (d[i]'hlt) = true
      · have hcc : (48 : Int) ≤ ((d[i]'hlt).toNat : Int) ∧ ((d[i]'hlt).toNat : Int) ≤ 57 := by
          unfold dgt at hc
          simp only [Bool.and_eq_true, decide_eq_true_eq] at hc
          omega
        have HC : Hid _ := hc
        clear hc
        have hwr : IntKind.u8.wrap (((d[i]'hlt).toNat : Int) - 48) = ((d[i]'hlt).toNat : Int) - 48 := by
          simp [IntKind.wrap, IntKind.bits, IntKind.signed]
          omega
        have hwi : IntKind.i64.wrap (((d[i]'hlt).toNat : Int) - 48) = ((d[i]'hlt).toNat : Int) - 48 := by
          simp [IntKind.wrap, IntKind.bits, IntKind.signed]
          omega
        have hfy : Hid (fits (((d[i]'hlt).toNat : Int) - 48) = true) := by
          exact fits_in (by omega) (by omega)
        have hfz : Hid (0 ≤ ((d[i]'hlt).toNat : Int) - 48) := (by omega : 0 ≤ ((d[i]'hlt).toNat : Int) - 48)
        have ten0 : Hid ((0 : Int) ≤ 10) := (by omega : (0 : Int) ≤ 10)
        have ten1 : Hid (fits 10 = true) := fits_in (by omega) (by omega)
        have HKD : Hid (DgS 300000 wr (.slice a k c) (dval d i)) := HD.out.mono (by omega)
        go_wp2_with fail
        go_region_with (first | (go_at_call 30; first | (have gg := HD2.out; clear gg; refine (clongP (((d[i]'hlt).toNat : Int) - 48) _ hfz.out hfy.out).mono ?_; rintro e wc ⟨a3, k3', c3', rfl, hd3, hb3⟩; have HD3 : Hid (DgS 5 wc (.slice a3 k3' c3') (((d[i]'hlt).toNat : Int) - 48)) := hd3; have HD2c : Hid (DgS 300010 wc (.slice a2 k2' c2') (dval d i * 10)) := HD2.out.below hb3; have HBc : Hid (Below wr.heap.size wr wc) := HBb.out.trans (hb3.mono HBb.out.size); clear hd3 hb3) | (refine (clongP 10 _ ten0.out ten1.out).mono ?_; rintro e wa ⟨a1, k1', c1', rfl, hd1, hb1⟩; have HBa : Hid (Below wr.heap.size wr wa) := undrew_b hb1; have HD1 : Hid (DgS 5 wa (.slice a1 k1' c1') 10) := hd1; have na0 := (HX.out.below HBa.out).cell0; have na1 := (HX.out.below HBa.out).cell1; clear hd1 hb1)) | (go_at_call 29; refine (ctimesN _ _ (dval d i) 10 _ (HKD.out.below HBa.out) HD1.out).mono ?_; rintro e wb ⟨a2, k2', c2', rfl, hd2, hb2⟩; have HD2 : Hid (DgS 300010 wb (.slice a2 k2' c2') (dval d i * 10)) := hd2; have HBb : Hid (Below wr.heap.size wr wb) := HBa.out.trans (hb2.mono HBa.out.size); clear hd2 hb2) | (go_at_call 31; refine (cplusN _ _ (dval d i * 10) _ _ HD2c.out HD3.out).mono ?_; rintro e wd ⟨a4, k4', c4', rfl, hd4, hb4⟩; have HD4 : Hid (DgS 300011 wd (.slice a4 k4' c4') (dval d i * 10 + (((d[i]'hlt).toNat : Int) - 48))) := hd4; have HBd : Hid (Below wr.heap.size wr wd) := HBc.out.trans (hb4.mono HBc.out.size); have nd0 := (HX.out.below HBd.out).cell0; have nd1 := (HX.out.below HBd.out).cell1; have nf0 := (HX.out.below HBd.out).frozen 0; have nf1 := (HX.out.below HBd.out).frozen 1; clear hd4 hb4))
        all_goals
          have HNX : Hid (Box2 ((wd.setCell ⟨w.heap.size + 1, 0, none⟩ (.bool false)).setCell ⟨w.heap.size + 1, 1, none⟩ (.slice a4 k4' c4')) (w.heap.size + 1) 45 (.bool false) (.slice a4 k4' c4')) := (HX.out.below HBd.out).put _ _
          have hn2 : (wd.setCell ⟨w.heap.size + 1, 0, none⟩ (.bool false)).cell? ⟨w.heap.size + 1, 1, none⟩ = some (.slice a k c) := (World.cell?_setCell_other (w := wd) (a := ⟨w.heap.size + 1, 0, none⟩) (b := ⟨w.heap.size + 1, 1, none⟩) (v := .bool false) (by simp)).trans nd1
          have HND : Hid (DgS 300011 ((wd.setCell ⟨w.heap.size + 1, 0, none⟩ (.bool false)).setCell ⟨w.heap.size + 1, 1, none⟩ (.slice a4 k4' c4')) (.slice a4 k4' c4') (dval d (i + 1))) := by
            show DgS 300011 _ _ (dval d (i + 1))
            rw [dval_s hlt]
            exact (HD4.out.set nd0 (by simp) _).set hn2 (by simp) _
          have HNV : Hid (0 ≤ dval d (i + 1) ∧ dval d (i + 1) < tenP (i + 1)) := by
            show 0 ≤ dval d (i + 1) ∧ dval d (i + 1) < tenP (i + 1)
            have h1 := HV.out
            rw [dval_s hlt, tenP_s]
            omega
          have HNG : Hid (∀ j (h : j < d.size), j < i + 1 → dgt (d[j]'h) = true) := fun j h hj => by
            by_cases e : j = i
            · subst e; exact HC.out
            · exact HG.out j h (by omega)
          have zz : w.heap.size < wr.heap.size := (Array.getElem?_eq_some_iff.1 HO.out).1
          have HNO : Hid (((wd.setCell ⟨w.heap.size + 1, 0, none⟩ (.bool false)).setCell ⟨w.heap.size + 1, 1, none⟩ (.slice a4 k4' c4')).heap[w.heap.size]? = some (.cells #[.int .i64 0, .int .i64 0, .string ⟨#[]⟩] 23 (0, 0))) := (Below.heap_setCell _ _ _ _ (by show w.heap.size ≠ w.heap.size + 1; omega)).trans ((Below.heap_setCell _ _ _ _ (by show w.heap.size ≠ w.heap.size + 1; omega)).trans ((HBd.out.block _ zz).trans HO.out))
          have HNB : Hid (Below w.heap.size w ((wd.setCell ⟨w.heap.size + 1, 0, none⟩ (.bool false)).setCell ⟨w.heap.size + 1, 1, none⟩ (.slice a4 k4' c4'))) := ((HB.out.trans (HBd.out.mono HB.out.size)).setCell (p := ⟨w.heap.size + 1, 0, none⟩) (by show w.heap.size ≤ w.heap.size + 1; omega) _).setCell (p := ⟨w.heap.size + 1, 1, none⟩) (by show w.heap.size ≤ w.heap.size + 1; omega) _
          go_wp2
          go_roundw
          case rel => exact ⟨i + 1, a4, k4', c4', by go_num, by omega, HNX, HND.out.few HNV.out.2, HNV, HNG, HNO, HNB⟩
          case measure => simp [intOf]; omega
      · have HW : Hid _ := wholeV_no (neg := true) hlt hc
        obtain ⟨r0, r1, r2, f0, f1, f2⟩ := wcell HO.out
        have hcc : ((d[i]'hlt).toNat : Int) < 48 ∨ (57 : Int) < ((d[i]'hlt).toNat : Int) := by
          unfold dgt at hc
          simp only [Bool.and_eq_true, decide_eq_true_eq] at hc
          omega
        have zz : w.heap.size < wr.heap.size := (Array.getElem?_eq_some_iff.1 HO.out).1
        clear hc
        rcases hcc with hcc | hcc
        · go_wp2_with fail
          refine (rnull _).mono ?_
          rintro e w2 ⟨rfl, hb2⟩
          obtain ⟨hc2, hf2⟩ := bcell hb2
          have HB2 : Hid (Below w.heap.size w w2) := HB.out.trans (hb2.mono HB.out.size)
          clear hb2
          go_wp2
          refine bodyPost_ret (v := (.agg #[.int .i64 (0), .int .i64 (0), .string (⟨#[]⟩)])) (by simp [results, Tryd.results24, go_sem, *]) rfl ⟨by rw [HW.out], ?_⟩
          exact (((HB2.out).setCell (by simp <;> omega) _).setCell (by simp <;> omega) _).setCell (by simp <;> omega) _
        · have hcd : ¬ ((d[i]'hlt).toNat : Int) < 48 := by omega
          go_wp2_with fail
          refine (rnull _).mono ?_
          rintro e w2 ⟨rfl, hb2⟩
          obtain ⟨hc2, hf2⟩ := bcell hb2
          have HB2 : Hid (Below w.heap.size w w2) := HB.out.trans (hb2.mono HB.out.size)
          clear hb2
          go_wp2
          refine bodyPost_ret (v := (.agg #[.int .i64 (0), .int .i64 (0), .string (⟨#[]⟩)])) (by simp [results, Tryd.results24, go_sem, *]) rfl ⟨by rw [HW.out], ?_⟩
          exact (((HB2.out).setCell (by simp <;> omega) _).setCell (by simp <;> omega) _).setCell (by simp <;> omega) _
    · obtain rfl : i = d.size := by omega
      obtain ⟨r0, r1, r2, f0, f1, f2⟩ := wcell HO.out
      have zz : w.heap.size < wr.heap.size := (Array.getElem?_eq_some_iff.1 HO.out).1
      by_cases hz : d.size = 0
      · have HW : Hid _ := wholeV_nil (neg := true) hz
        have hde : d.toList.isEmpty = true := by rw [empB, decide_eq_true hz]
        have hdl : d.toList = [] := by simpa using hde
        go_wp2_with fail
        refine (rnull _).mono ?_
        rintro e w2 ⟨rfl, hb2⟩
        obtain ⟨hc2, hf2⟩ := bcell hb2
        have HB2 : Hid (Below w.heap.size w w2) := HB.out.trans (hb2.mono HB.out.size)
        clear hb2
        go_wp2
        refine bodyPost_ret (v := (.agg #[.int .i64 (0), .int .i64 (0), .string (⟨#[]⟩)])) (by simp [results, Tryd.results24, go_sem, *]) rfl ⟨by rw [HW.out], ?_⟩
        exact (((HB2.out).setCell (by simp <;> omega) _).setCell (by simp <;> omega) _).setCell (by simp <;> omega) _
      · have HW : Hid _ := wholeV_all (neg := true) hz (fun j h => HG.out j h h)
        have hde : d.toList.isEmpty = false := by rw [empB, decide_eq_false hz]
        have hdl : ¬ d.toList = [] := by simpa using hde
        have n0 := HX.out.cell0
        have n1 := HX.out.cell1
        have q0 := HX.out.frozen 0
        have q1 := HX.out.frozen 1
        have HM : Hid (Box2 (wr.setCell ⟨w.heap.size + 1, 0, none⟩ (.bool true)) (w.heap.size + 1) 45 (.bool true) (.slice a k c)) := HX.out.set0w _
        have HDM : Hid (DgS 900000 (wr.setCell ⟨w.heap.size + 1, 0, none⟩ (.bool true)) (.slice a k c) (dval d d.size)) := (HD.out.set n0 (by simp) _).mono (by omega)
        have HBM : Hid (Below w.heap.size w (wr.setCell ⟨w.heap.size + 1, 0, none⟩ (.bool true))) := HB.out.setCell (p := ⟨w.heap.size + 1, 0, none⟩) (by show w.heap.size ≤ w.heap.size + 1; omega) _
        have HOM : Hid ((wr.setCell ⟨w.heap.size + 1, 0, none⟩ (.bool true)).heap[w.heap.size]? = some (.cells #[.int .i64 0, .int .i64 0, .string ⟨#[]⟩] 23 (0, 0))) := (Below.heap_setCell _ _ _ _ (by show w.heap.size ≠ w.heap.size + 1; omega)).trans HO.out
        have m0 := HM.out.cell0
        have m1 := HM.out.cell1
        have klt : (d.size : Int) < (s.size : Int) := by omega
        go_wp2_with fail
        clear n0 n1 q0 q1 r0 r1 r2 f0 f1 f2
        generalize wr.setCell ⟨w.heap.size + 1, 0, none⟩ (.bool true) = WM at *
        refine (cvalueN true (.slice a k c) (dval d d.size) WM HDM.out).mono ?_
        rintro e w2 ⟨he, hb2⟩
        obtain ⟨r0, r1, r2, f0, f1, f2⟩ := wcell ((hb2.block _ (Array.getElem?_eq_some_iff.1 HOM.out).1).trans HOM.out)
        have HB2 : Hid (Below w.heap.size w w2) := HBM.out.trans (hb2.mono HBM.out.size)
        clear hb2
        cases hf : fits (sg true (dval d d.size)) with
        | true =>
          have e9 : numV (sg true (dval d d.size)) = (.agg #[.int .i64 (2), .int .i64 (sg true (dval d d.size)), .string (⟨#[]⟩)]) := by unfold numV; rw [hf]; rfl
          have HW2 : Hid _ := HW.out.trans e9
          rw [e9] at he
          subst he
          clear e9 hf
          generalize sg true (dval d d.size) = z at *
          go_wp2
          refine bodyPost_ret (v := (.agg #[.int .i64 (2), .int .i64 (z), .string (⟨#[]⟩)])) (by simp [results, Tryd.results24, go_sem, *]) rfl ⟨by rw [HW2.out], ?_⟩
          exact (((HB2.out).setCell (by simp <;> omega) _).setCell (by simp <;> omega) _).setCell (by simp <;> omega) _
        | false =>
          have e9 : numV (sg true (dval d d.size)) = (.agg #[.int .i64 (0), .int .i64 (0), .string (⟨#[]⟩)]) := by unfold numV; rw [hf]; rfl
          have HW2 : Hid _ := HW.out.trans e9
          rw [e9] at he
          subst he
          clear e9 hf
          go_wp2
          refine bodyPost_ret (v := (.agg #[.int .i64 (0), .int .i64 (0), .string (⟨#[]⟩)])) (by simp [results, Tryd.results24, go_sem, *]) rfl ⟨by rw [HW2.out], ?_⟩
          exact (((HB2.out).setCell (by simp <;> omega) _).setCell (by simp <;> omega) _).setCell (by simp <;> omega) _
set_option maxRecDepth 20000 in
set_option maxHeartbeats 4000000 in
theorem rwholeP (s d : ByteArray) (w : World) (hs : s.size ≤ 1048576) (h0 : 0 < s.size) (h1 : ¬ (s[0]'h0).toNat = 45) (hd : d = s) :
    Calls Tryd.prog 24 #[.string s] w fun e w' => e = .returned (wholeV false d) ∧ Below w.heap.size w w' := by
  have hE : s.toList.isEmpty = false := by rw [empB, decide_eq_false (by omega)]
  have hEl : ¬ s.toList = [] := by simpa using hE
  have b45 : (((s[0]'h0).toNat : Int) == 45) = false := by
    have : ¬ ((s[0]'h0).toNat : Int) = 45 := by omega
    simpa using this
  have k1 : (0 : Int) < (s.size : Int) := by omega
  have hds : d.size = s.size := by rw [hd]
  go_enter Tryd.func24, Tryd.ntmps24
  go_wp2_with fail
  have HDD : Hid _ := hd
  subst hd
  have hW2 : ((w.alloc (.cells #[.int .i64 0, .int .i64 0, .string ⟨#[]⟩] 23)).alloc (.cells #[.bool false, .slice none 0 0] 45)).heap.size = w.heap.size + 1 + 1 := by simp
  have nb : Box2 ((w.alloc (.cells #[.int .i64 0, .int .i64 0, .string ⟨#[]⟩] 23)).alloc (.cells #[.bool false, .slice none 0 0] 45)) (w.heap.size + 1) 45 (.bool false) (.slice none 0 0) := by
    have := Box2.new (w.alloc (.cells #[.int .i64 0, .int .i64 0, .string ⟨#[]⟩] 23)) 45 (.bool false) (.slice none 0 0)
    simpa using this
  have NB : Hid _ := nb
  clear hW2 nb
  go_loopw [5] (fun u X => ∃ (i : Nat) (a : Option Addr) (k c : Nat), u = .int .i64 i ∧ i ≤ d.size ∧ Hid (Box2 X (w.heap.size + 1) 45 (.bool false) (.slice a k c)) ∧ Hid (DgS (i / 4 + 1) X (.slice a k c) (dval d i)) ∧ Hid (0 ≤ dval d i ∧ dval d i < tenP i) ∧ Hid (∀ j (h : j < d.size), j < i → dgt (d[j]'h) = true) ∧ Hid (X.heap[w.heap.size]? = some (.cells #[.int .i64 0, .int .i64 0, .string ⟨#[]⟩] 23 (0, 0))) ∧ Hid (Below w.heap.size w X)) (fun u _ => d.size - (intOf u).toNat)
  case atStart =>
    refine ⟨0, none, 0, 0, rfl, Nat.zero_le _, NB, ⟨none, 0, 0, fun _ => 0, rfl, by omega, Nat.le_refl _, Or.inl rfl, fun i hi => absurd hi (by omega), Or.inl rfl, rfl⟩, ⟨Int.le_refl _, (by decide : (0 : Int) < 1)⟩, fun j h hj => by omega, ?_, (((Below.refl _ _).alloc (Nat.le_refl _) _).alloc (by simp) _)⟩
    have := heap_alloc_new w (.cells #[.int .i64 0, .int .i64 0, .string ⟨#[]⟩] 23)
    exact (heap_alloc_old (w.alloc (.cells #[.int .i64 0, .int .i64 0, .string ⟨#[]⟩] 23)) (.cells #[.bool false, .slice none 0 0] 45) (by simp)).trans this
  case round =>
    clear NB
    obtain ⟨i, a, k, c, rfl, hin, HX, HD, HV, HG, HO, HB⟩ := hrel
    by_cases hlt : i < d.size
    · have kk : (i : Int) < (d.size : Int) := by omega
      have kz : (0 : Int) ≤ (i : Int) := by omega
      have n0 := HX.out.cell0
      have n1 := HX.out.cell1
      have q0 := HX.out.frozen 0
      have q1 := HX.out.frozen 1
      obtain ⟨y, hy⟩ : ∃ y : Int, y = ((d[i]'hlt).toNat : Int) := ⟨_, rfl⟩
      have hyy : Hid _ := hy
      by_cases hc : dgt (d[i]'hlt) = true
      · have hcc : (48 : Int) ≤ ((d[i]'hlt).toNat : Int) ∧ ((d[i]'hlt).toNat : Int) ≤ 57 := by
          unfold dgt at hc
          simp only [Bool.and_eq_true, decide_eq_true_eq] at hc
          omega
        have HC : Hid _ := hc
        clear hc
        have hwr : IntKind.u8.wrap (((d[i]'hlt).toNat : Int) - 48) = ((d[i]'hlt).toNat : Int) - 48 := by
          simp [IntKind.wrap, IntKind.bits, IntKind.signed]
          omega
        have hwi : IntKind.i64.wrap (((d[i]'hlt).toNat : Int) - 48) = ((d[i]'hlt).toNat : Int) - 48 := by
          simp [IntKind.wrap, IntKind.bits, IntKind.signed]
          omega
        have hfy : Hid (fits (((d[i]'hlt).toNat : Int) - 48) = true) := by
          exact fits_in (by omega) (by omega)
        have hfz : Hid (0 ≤ ((d[i]'hlt).toNat : Int) - 48) := (by omega : 0 ≤ ((d[i]'hlt).toNat : Int) - 48)
        have ten0 : Hid ((0 : Int) ≤ 10) := (by omega : (0 : Int) ≤ 10)
        have ten1 : Hid (fits 10 = true) := fits_in (by omega) (by omega)
        have HKD : Hid (DgS 300000 wr (.slice a k c) (dval d i)) := HD.out.mono (by omega)
        go_wp2_with fail
        go_region_with (first | (go_at_call 30; first | (have gg := HD2.out; clear gg; refine (clongP (((d[i]'hlt).toNat : Int) - 48) _ hfz.out hfy.out).mono ?_; rintro e wc ⟨a3, k3', c3', rfl, hd3, hb3⟩; have HD3 : Hid (DgS 5 wc (.slice a3 k3' c3') (((d[i]'hlt).toNat : Int) - 48)) := hd3; have HD2c : Hid (DgS 300010 wc (.slice a2 k2' c2') (dval d i * 10)) := HD2.out.below hb3; have HBc : Hid (Below wr.heap.size wr wc) := HBb.out.trans (hb3.mono HBb.out.size); clear hd3 hb3) | (refine (clongP 10 _ ten0.out ten1.out).mono ?_; rintro e wa ⟨a1, k1', c1', rfl, hd1, hb1⟩; have HBa : Hid (Below wr.heap.size wr wa) := undrew_b hb1; have HD1 : Hid (DgS 5 wa (.slice a1 k1' c1') 10) := hd1; have na0 := (HX.out.below HBa.out).cell0; have na1 := (HX.out.below HBa.out).cell1; clear hd1 hb1)) | (go_at_call 29; refine (ctimesN _ _ (dval d i) 10 _ (HKD.out.below HBa.out) HD1.out).mono ?_; rintro e wb ⟨a2, k2', c2', rfl, hd2, hb2⟩; have HD2 : Hid (DgS 300010 wb (.slice a2 k2' c2') (dval d i * 10)) := hd2; have HBb : Hid (Below wr.heap.size wr wb) := HBa.out.trans (hb2.mono HBa.out.size); clear hd2 hb2) | (go_at_call 31; refine (cplusN _ _ (dval d i * 10) _ _ HD2c.out HD3.out).mono ?_; rintro e wd ⟨a4, k4', c4', rfl, hd4, hb4⟩; have HD4 : Hid (DgS 300011 wd (.slice a4 k4' c4') (dval d i * 10 + (((d[i]'hlt).toNat : Int) - 48))) := hd4; have HBd : Hid (Below wr.heap.size wr wd) := HBc.out.trans (hb4.mono HBc.out.size); have nd0 := (HX.out.below HBd.out).cell0; have nd1 := (HX.out.below HBd.out).cell1; have nf0 := (HX.out.below HBd.out).frozen 0; have nf1 := (HX.out.below HBd.out).frozen 1; clear hd4 hb4))
        all_goals
          have HNX : Hid (Box2 ((wd.setCell ⟨w.heap.size + 1, 0, none⟩ (.bool false)).setCell ⟨w.heap.size + 1, 1, none⟩ (.slice a4 k4' c4')) (w.heap.size + 1) 45 (.bool false) (.slice a4 k4' c4')) := (HX.out.below HBd.out).put _ _
          have hn2 : (wd.setCell ⟨w.heap.size + 1, 0, none⟩ (.bool false)).cell? ⟨w.heap.size + 1, 1, none⟩ = some (.slice a k c) := (World.cell?_setCell_other (w := wd) (a := ⟨w.heap.size + 1, 0, none⟩) (b := ⟨w.heap.size + 1, 1, none⟩) (v := .bool false) (by simp)).trans nd1
          have HND : Hid (DgS 300011 ((wd.setCell ⟨w.heap.size + 1, 0, none⟩ (.bool false)).setCell ⟨w.heap.size + 1, 1, none⟩ (.slice a4 k4' c4')) (.slice a4 k4' c4') (dval d (i + 1))) := by
            show DgS 300011 _ _ (dval d (i + 1))
            rw [dval_s hlt]
            exact (HD4.out.set nd0 (by simp) _).set hn2 (by simp) _
          have HNV : Hid (0 ≤ dval d (i + 1) ∧ dval d (i + 1) < tenP (i + 1)) := by
            show 0 ≤ dval d (i + 1) ∧ dval d (i + 1) < tenP (i + 1)
            have h1 := HV.out
            rw [dval_s hlt, tenP_s]
            omega
          have HNG : Hid (∀ j (h : j < d.size), j < i + 1 → dgt (d[j]'h) = true) := fun j h hj => by
            by_cases e : j = i
            · subst e; exact HC.out
            · exact HG.out j h (by omega)
          have zz : w.heap.size < wr.heap.size := (Array.getElem?_eq_some_iff.1 HO.out).1
          have HNO : Hid (((wd.setCell ⟨w.heap.size + 1, 0, none⟩ (.bool false)).setCell ⟨w.heap.size + 1, 1, none⟩ (.slice a4 k4' c4')).heap[w.heap.size]? = some (.cells #[.int .i64 0, .int .i64 0, .string ⟨#[]⟩] 23 (0, 0))) := (Below.heap_setCell _ _ _ _ (by show w.heap.size ≠ w.heap.size + 1; omega)).trans ((Below.heap_setCell _ _ _ _ (by show w.heap.size ≠ w.heap.size + 1; omega)).trans ((HBd.out.block _ zz).trans HO.out))
          have HNB : Hid (Below w.heap.size w ((wd.setCell ⟨w.heap.size + 1, 0, none⟩ (.bool false)).setCell ⟨w.heap.size + 1, 1, none⟩ (.slice a4 k4' c4'))) := ((HB.out.trans (HBd.out.mono HB.out.size)).setCell (p := ⟨w.heap.size + 1, 0, none⟩) (by show w.heap.size ≤ w.heap.size + 1; omega) _).setCell (p := ⟨w.heap.size + 1, 1, none⟩) (by show w.heap.size ≤ w.heap.size + 1; omega) _
          go_wp2
          go_roundw
          case rel => exact ⟨i + 1, a4, k4', c4', by go_num, by omega, HNX, HND.out.few HNV.out.2, HNV, HNG, HNO, HNB⟩
          case measure => simp [intOf]; omega
      · have HW : Hid _ := wholeV_no (neg := false) hlt hc
        obtain ⟨r0, r1, r2, f0, f1, f2⟩ := wcell HO.out
        have hcc : ((d[i]'hlt).toNat : Int) < 48 ∨ (57 : Int) < ((d[i]'hlt).toNat : Int) := by
          unfold dgt at hc
          simp only [Bool.and_eq_true, decide_eq_true_eq] at hc
          omega
        have zz : w.heap.size < wr.heap.size := (Array.getElem?_eq_some_iff.1 HO.out).1
        clear hc
        rcases hcc with hcc | hcc
        · go_wp2_with fail
          refine (rnull _).mono ?_
          rintro e w2 ⟨rfl, hb2⟩
          obtain ⟨hc2, hf2⟩ := bcell hb2
          have HB2 : Hid (Below w.heap.size w w2) := HB.out.trans (hb2.mono HB.out.size)
          clear hb2
          go_wp2
          refine bodyPost_ret (v := (.agg #[.int .i64 (0), .int .i64 (0), .string (⟨#[]⟩)])) (by simp [results, Tryd.results24, go_sem, *]) rfl ⟨by rw [HW.out], ?_⟩
          exact (((HB2.out).setCell (by simp <;> omega) _).setCell (by simp <;> omega) _).setCell (by simp <;> omega) _
        · have hcd : ¬ ((d[i]'hlt).toNat : Int) < 48 := by omega
          go_wp2_with fail
          refine (rnull _).mono ?_
          rintro e w2 ⟨rfl, hb2⟩
          obtain ⟨hc2, hf2⟩ := bcell hb2
          have HB2 : Hid (Below w.heap.size w w2) := HB.out.trans (hb2.mono HB.out.size)
          clear hb2
          go_wp2
          refine bodyPost_ret (v := (.agg #[.int .i64 (0), .int .i64 (0), .string (⟨#[]⟩)])) (by simp [results, Tryd.results24, go_sem, *]) rfl ⟨by rw [HW.out], ?_⟩
          exact (((HB2.out).setCell (by simp <;> omega) _).setCell (by simp <;> omega) _).setCell (by simp <;> omega) _
    · obtain rfl : i = d.size := by omega
      obtain ⟨r0, r1, r2, f0, f1, f2⟩ := wcell HO.out
      have zz : w.heap.size < wr.heap.size := (Array.getElem?_eq_some_iff.1 HO.out).1
      by_cases hz : d.size = 0
      · omega
      · have HW : Hid _ := wholeV_all (neg := false) hz (fun j h => HG.out j h h)
        have hde : d.toList.isEmpty = false := by rw [empB, decide_eq_false hz]
        have hdl : ¬ d.toList = [] := by simpa using hde
        have n0 := HX.out.cell0
        have n1 := HX.out.cell1
        have q0 := HX.out.frozen 0
        have q1 := HX.out.frozen 1
        have HM : Hid (Box2 (wr.setCell ⟨w.heap.size + 1, 0, none⟩ (.bool false)) (w.heap.size + 1) 45 (.bool false) (.slice a k c)) := HX.out.set0w _
        have HDM : Hid (DgS 900000 (wr.setCell ⟨w.heap.size + 1, 0, none⟩ (.bool false)) (.slice a k c) (dval d d.size)) := (HD.out.set n0 (by simp) _).mono (by omega)
        have HBM : Hid (Below w.heap.size w (wr.setCell ⟨w.heap.size + 1, 0, none⟩ (.bool false))) := HB.out.setCell (p := ⟨w.heap.size + 1, 0, none⟩) (by show w.heap.size ≤ w.heap.size + 1; omega) _
        have HOM : Hid ((wr.setCell ⟨w.heap.size + 1, 0, none⟩ (.bool false)).heap[w.heap.size]? = some (.cells #[.int .i64 0, .int .i64 0, .string ⟨#[]⟩] 23 (0, 0))) := (Below.heap_setCell _ _ _ _ (by show w.heap.size ≠ w.heap.size + 1; omega)).trans HO.out
        have m0 := HM.out.cell0
        have m1 := HM.out.cell1
        skip
        go_wp2_with fail
        clear n0 n1 q0 q1 r0 r1 r2 f0 f1 f2
        generalize wr.setCell ⟨w.heap.size + 1, 0, none⟩ (.bool false) = WM at *
        refine (cvalueN false (.slice a k c) (dval d d.size) WM HDM.out).mono ?_
        rintro e w2 ⟨he, hb2⟩
        obtain ⟨r0, r1, r2, f0, f1, f2⟩ := wcell ((hb2.block _ (Array.getElem?_eq_some_iff.1 HOM.out).1).trans HOM.out)
        have HB2 : Hid (Below w.heap.size w w2) := HBM.out.trans (hb2.mono HBM.out.size)
        clear hb2
        cases hf : fits (sg false (dval d d.size)) with
        | true =>
          have e9 : numV (sg false (dval d d.size)) = (.agg #[.int .i64 (2), .int .i64 (sg false (dval d d.size)), .string (⟨#[]⟩)]) := by unfold numV; rw [hf]; rfl
          have HW2 : Hid _ := HW.out.trans e9
          rw [e9] at he
          subst he
          clear e9 hf
          generalize sg false (dval d d.size) = z at *
          go_wp2
          refine bodyPost_ret (v := (.agg #[.int .i64 (2), .int .i64 (z), .string (⟨#[]⟩)])) (by simp [results, Tryd.results24, go_sem, *]) rfl ⟨by rw [HW2.out], ?_⟩
          exact (((HB2.out).setCell (by simp <;> omega) _).setCell (by simp <;> omega) _).setCell (by simp <;> omega) _
        | false =>
          have e9 : numV (sg false (dval d d.size)) = (.agg #[.int .i64 (0), .int .i64 (0), .string (⟨#[]⟩)]) := by unfold numV; rw [hf]; rfl
          have HW2 : Hid _ := HW.out.trans e9
          rw [e9] at he
          subst he
          clear e9 hf
          go_wp2
          refine bodyPost_ret (v := (.agg #[.int .i64 (0), .int .i64 (0), .string (⟨#[]⟩)])) (by simp [results, Tryd.results24, go_sem, *]) rfl ⟨by rw [HW2.out], ?_⟩
          exact (((HB2.out).setCell (by simp <;> omega) _).setCell (by simp <;> omega) _).setCell (by simp <;> omega) _
set_option maxRecDepth 20000 in
set_option maxHeartbeats 4000000 in
theorem rwholeE (s d : ByteArray) (w : World) (hs : s.size ≤ 1048576) (h0 : s.size = 0) (hd : d = s) :
    Calls Tryd.prog 24 #[.string s] w fun e w' => e = .returned (wholeV false d) ∧ Below w.heap.size w w' := by
  have hE : s.toList.isEmpty = true := by rw [empB, decide_eq_true h0]
  have hEl : s.toList = [] := by simpa using hE
  have hds : d.size = s.size := by rw [hd]
  go_enter Tryd.func24, Tryd.ntmps24
  go_wp2_with fail
  have HDD : Hid _ := hd
  subst hd
  have HW : Hid _ := wholeV_nil (neg := false) h0
  have kz : ¬ (0 : Int) < (d.size : Int) := by omega
  go_loopw [5] (fun u X => u = .int .i64 0 ∧ X = ((w.alloc (.cells #[.int .i64 0, .int .i64 0, .string ⟨#[]⟩] 23)).alloc (.cells #[.bool false, .slice none 0 0] 45))) (fun _ _ => 0)
  case atStart => exact ⟨rfl, rfl⟩
  case round =>
    obtain ⟨rfl, rfl⟩ := hrel
    go_wp2_with fail
    refine (rnull _).mono ?_
    rintro e w2 ⟨rfl, hb2⟩
    have hO : ((w.alloc (.cells #[.int .i64 0, .int .i64 0, .string ⟨#[]⟩] 23)).alloc (.cells #[.bool false, .slice none 0 0] 45)).heap[w.heap.size]? = some (.cells #[.int .i64 0, .int .i64 0, .string ⟨#[]⟩] 23 (0, 0)) := (heap_alloc_old (w.alloc (.cells #[.int .i64 0, .int .i64 0, .string ⟨#[]⟩] 23)) (.cells #[.bool false, .slice none 0 0] 45) (by simp)).trans (heap_alloc_new w (.cells #[.int .i64 0, .int .i64 0, .string ⟨#[]⟩] 23))
    obtain ⟨r0, r1, r2, f0, f1, f2⟩ := wcell ((hb2.block _ (Array.getElem?_eq_some_iff.1 hO).1).trans hO)
    have HB2 : Hid (Below w.heap.size w w2) := keepBelow (((Below.refl _ _).alloc (Nat.le_refl _) _).alloc (by simp) _) hb2
    clear hO hb2
    go_wp2
    refine bodyPost_ret (v := (.agg #[.int .i64 (0), .int .i64 (0), .string (⟨#[]⟩)])) (by simp [results, Tryd.results24, go_sem, *]) rfl ⟨by rw [HW.out], ?_⟩
    exact (((HB2.out).setCell (by simp <;> omega) _).setCell (by simp <;> omega) _).setCell (by simp <;> omega) _
end Go.Proofs.YtmkfkjicfmllmaaDoor
