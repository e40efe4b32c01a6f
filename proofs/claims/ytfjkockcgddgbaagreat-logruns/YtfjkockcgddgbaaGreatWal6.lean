/- package wal: Commit -/
import Derived.Test.YtfjkockcgddgbaaGreatWal5
namespace Go.Proofs.YtfjkockcgddgbaaGreat
open Go.RowKit Go.Lib Go.Maps
attribute [local go_sem ↓] Go.wp_at_zero Go.wp_at_succ
theorem ctellL (fr pg : Nat) (X : World) (B D G bp bf m k : Nat) (L : LS) (S : DS) (h : PL X B D G bp bf m L S) (hB : B ≤ X.heap.size) (ho : okS S k) (hk : k ≤ 900000) (hc : okCm L.last) :
    Calls Tryz.prog 63 #[(.pointer (some ⟨G, 0, none⟩)), .int .i64 fr, .int .i64 pg] X fun e w' => e = .returned (.int .i64 (tlL L S fr pg).1) ∧ PL w' B D G bp bf m (tlL L S fr pg).2.1 (tlL L S fr pg).2.2 ∧ BelL G bp bf B X w' := by
  obtain ⟨r1, S1, h1⟩ : ∃ r S2, opD S 1 (16 + 24 * ((1 - L.last.slot : Nat) : Int)) (txtB (nxN L.last.number) fr pg) false = (r, S2) := ⟨_, _, rfl⟩
  obtain ⟨r2, S2, h2⟩ : ∃ r S2, synD S1 1 = (r, S2) := ⟨_, _, rfl⟩
  have e : tlL L S fr pg = (if r1 = 0 then r2 else r1, (if r1 = 0 ∧ r2 = 0 then { L with last := flC L.last fr pg, fr := fr } else L), (if r1 = 0 then S2 else S1)) := by
    unfold tlL
    rw [h1]
    show (if r1 = 0 then (if (synD S1 1).1 = 0 then _ else _) else _) = _
    rw [h2]
    by_cases a : r1 = 0
    · rw [if_pos a, if_pos a, if_pos a]
      by_cases b : r2 = 0
      · rw [if_pos b, if_pos ⟨a, b⟩, b]
      · rw [if_neg b, if_neg (fun h => b h.2)]
    · rw [if_neg a, if_neg a, if_neg a, if_neg (fun h => a h.1)]
  rw [e]
  exact ctell fr pg X B D G bp bf m k L S h hB ho hk hc r1 r2 S1 S2 h1 h2
theorem apL_last (L : LS) (S : DS) (n : Int) (t : ByteArray) : (apL L S n t).2.1.last = L.last := by
  unfold apL
  split
  · rfl
  · split
    · rfl
    · split <;> rfl
theorem apL_fr (L : LS) (S : DS) (n : Int) (t : ByteArray) : (apL L S n t).2.1.fr ≤ L.fr + 1 := by
  unfold apL
  split
  · exact Nat.le_succ _
  · split
    · exact Nat.le_succ _
    · split
      · exact Nat.le_refl _
      · exact Nat.le_succ _
theorem apL_ok {L : LS} {S : DS} {k : Nat} (h : okS S k) (n : Int) (t : ByteArray) : okS (apL L S n t).2.2 (k + 1) := by
  unfold apL
  split
  · exact h.mono (Nat.le_succ _)
  · split
    · exact h.mono (Nat.le_succ _)
    · split <;> exact opD_ok h _ _ _ _
theorem tlL_ok {L : LS} {S : DS} {k : Nat} (h : okS S k) (fr pg : Nat) : okS (tlL L S fr pg).2.2 (k + 2) := by
  unfold tlL
  split
  · split <;> exact synD_ok (opD_ok h _ _ _ _) _
  · exact (opD_ok h _ _ _ _).mono (Nat.le_succ _)
theorem tlL_maps (L : LS) (S : DS) (fr pg : Nat) : (tlL L S fr pg).2.1.pl = L.pl ∧ (tlL L S fr pg).2.1.fh = L.fh := by
  unfold tlL
  split
  · split <;> exact ⟨rfl, rfl⟩
  · exact ⟨rfl, rfl⟩
def mrg (pl fh : Int → Option Int) : Int → Option Int := fun x => match fh x with | some v => some v | none => pl x
/- .. of those keys that are no longer to come -/
def mrgL (pl fh : Int → Option Int) (left : Lit → Bool) : Int → Option Int := fun x => if left (.int .i64 x) = true then pl x else mrg pl fh x
def cmL (L : LS) (S : DS) (n : Int) (t : ByteArray) (pg : Int) : Int × LS × DS :=
  if ¬ (1 ≤ pg ∧ pg ≤ 65536) then (1, L, S)
  else if ¬ (apL L S n t).1 = 0 then apL L S n t
  else if ¬ (synD (apL L S n t).2.2 1).1 = 0 then ((synD (apL L S n t).2.2 1).1, (apL L S n t).2.1, (synD (apL L S n t).2.2 1).2)
  else if ¬ (tlL (apL L S n t).2.1 (synD (apL L S n t).2.2 1).2 (apL L S n t).2.1.fr pg.toNat).1 = 0 then tlL (apL L S n t).2.1 (synD (apL L S n t).2.2 1).2 (apL L S n t).2.1.fr pg.toNat
  else (0, { (tlL (apL L S n t).2.1 (synD (apL L S n t).2.2 1).2 (apL L S n t).2.1.fr pg.toNat).2.1 with pl := mrg L.pl (apL L S n t).2.1.fh, fh := fun _ => none }, (tlL (apL L S n t).2.1 (synD (apL L S n t).2.2 1).2 (apL L S n t).2.1.fr pg.toNat).2.2)
theorem BelL.none {G bp bf B : Nat} {X Y Z : World} (h : BelL G bp bf B X Y) (hB : B ≤ X.heap.size) (hg : Y.grownBy Z none) : BelL G bp bf B X Z :=
  h.trans (below_log ⟨hg.os, hg.tape, hg.output, hg.size, fun b hb => hg.block b hb (by simp)⟩ (Nat.le_trans hB h.size) G bp bf)
theorem BelL.newer {G bp bf B r : Nat} {X Y Z : World} (h : BelL G bp bf B X Y) (hB : B ≤ X.heap.size) (hg : Y.grownBy Z (some r)) (hr : X.heap.size ≤ r) : BelL G bp bf B X Z :=
  ⟨⟨hg.os.trans h.os, hg.tape.trans h.tape, hg.output.trans h.output, Nat.le_trans h.size hg.size, fun b hb => (hg.block b (Nat.lt_of_lt_of_le (Nat.lt_of_lt_of_le hb hB) h.size) (fun e => by injection e with e; omega)).trans (h.block b hb)⟩,
   fun b hb hf h1 h2 h3 => (hg.block b (Nat.lt_of_lt_of_le hb h.size) (fun e => by injection e with e; omega)).trans (h.far b hb hf h1 h2 h3)⟩
theorem PL.kept {X Y : World} {B D G bp bf n r : Nat} {L : LS} {S : DS} (h : PL X B D G bp bf n L S) (hg : X.grownBy Y (some r)) (h1 : ¬ r = G) (h2 : ¬ r = bp) (h3 : ¬ r = bf) (hf : farT tyP X r) : PL Y B D G bp bf n L S :=
  ⟨(hg.block G h.lt (fun e => by injection e with e; exact h1 e.symm)).trans h.blk, h.low, h.dif, h.mp.keep (hg.block _ h.mp.lt (fun e => by injection e with e; exact h2 e.symm)), h.mf.keep (hg.block _ h.mf.lt (fun e => by injection e with e; exact h3 e.symm)), h.dsk.grown hg hf⟩
theorem MI.congr {X : World} {b n : Nat} {F F' : Int → Option Int} (h : MI X b n F) (he : ∀ x, i64 x → F' x = F x) : MI X b n F' := by
  obtain ⟨D, ho, k⟩ := h
  exact ⟨D, ho, fun x hx => by rw [he x hx]; exact k x hx⟩
theorem PL.congr {X : World} {B D G bp bf n : Nat} {L : LS} {S : DS} (h : PL X B D G bp bf n L S) {F : Int → Option Int} (he : ∀ x, i64 x → F x = L.pl x) : PL X B D G bp bf n { L with pl := F } S :=
  ⟨h.blk, h.low, h.dif, h.mp.congr he, h.mf, h.dsk⟩
/- the map of places is written -/
theorem PL.places {X Y : World} {B D G bp bf n m : Nat} {L : LS} {S : DS} {F : Int → Option Int} (h : PL X B D G bp bf n L S) (hg : X.grownBy Y (some bp)) (hF : MI Y bp m F) (hm : n ≤ m) : PL Y B D G bp bf m { L with pl := F } S := by
  obtain ⟨n1, n2, n3, n4, n5⟩ := h.ne
  refine ⟨(hg.block G h.lt (fun e => ?_)).trans h.blk, h.low, h.dif, hF, (h.mf.keep (hg.block _ h.mf.lt (fun e => ?_))).mono hm, h.dsk.grown hg (h.mp.far _)⟩
  · injection e with e; exact n1 e.symm
  · injection e with e; exact h.dif e.symm
theorem iter_far {P : Program} {k : TypeId} {R : Value → Option (DataW Unit × List MemPlace)} {w : World} {b r n : Nat} {D : DataW Unit} {left : Lit → Bool} {cnt : Nat} (h : w.ranges P k R b r n D left cnt) (T : TypeId → Bool) : farT T w r ∧ (∀ es c, ¬ w.heap[r]? = some (.map es c)) ∧ (∀ cs t f, ¬ w.heap[r]? = some (.cells cs t f)) := by
  obtain ⟨es, clock, since, seen, c0, -, -, -, -, hr, -⟩ := h
  refine ⟨fun cur e fz he => ?_, fun es c he => ?_, fun cs t f he => ?_⟩ <;> (rw [hr] at he; cases he)
theorem PL.iter {X : World} {B D G bp bf n N : Nat} {L : LS} {S : DS} (h : PL X B D G bp bf n L S) {r : Nat} {DF : DataW Unit} {left : Lit → Bool} {cnt : Nat} (hr : X.ranges Tryz.prog 3 (plainElem Tryz.prog 3) bf r N DF left cnt) : ¬ r = G ∧ ¬ r = bp ∧ ¬ r = bf := by
  obtain ⟨-, h1, h2⟩ := iter_far hr tyP
  obtain ⟨e1, c1, m1⟩ := h.mp.isMap
  obtain ⟨e2, c2, m2⟩ := h.mf.isMap
  exact ⟨fun e => by subst e; exact h2 _ _ _ h.blk, fun e => by subst e; exact h1 _ _ m1, fun e => by subst e; exact h1 _ _ m2⟩
theorem mrg_step {pl fh : Int → Option Int} {left : Lit → Bool} {x c : Int} (hx : fh x = some c) (y : Int) : mrgL pl fh (fun z => left z && !z.sameKey (.int .i64 x)) y = updM (mrgL pl fh left) x c y := by
  unfold updM mrgL mrg
  by_cases e : y = x
  · subst e
    rw [if_pos rfl, if_neg (by simp [Lit.sameKey]), hx]
  · rw [if_neg e]
    have : (Lit.int .i64 y).sameKey (.int .i64 x) = false := sameKey_ne (fun h => by injection h with _ h; exact e h)
    show (if (left (.int .i64 y) && !(Lit.int .i64 y).sameKey (.int .i64 x)) = true then pl y else _) = _
    rw [this, Bool.not_false, Bool.and_true]
theorem PL.none {X Y : World} {B D G bp bf n : Nat} {L : LS} {S : DS} (h : PL X B D G bp bf n L S) (hg : X.grownBy Y none) : PL Y B D G bp bf n L S := h.below ⟨hg.os, hg.tape, hg.output, hg.size, fun b hb => hg.block b hb (by simp)⟩
set_option maxRecDepth 100000 in
set_option maxHeartbeats 1000000 in
theorem ccommit0 (n : Int) (t : ByteArray) (pg : Nat) (X : World) (B D G bp bf m k : Nat) (L : LS) (S : DS) (h : PL X B D G bp bf m L S) (hB : B ≤ X.heap.size) (hm : m ≤ 400000) (ho : okS S k) (hk : k ≤ 800000) (hf : L.fr ≤ 65535) (hc : okCm L.last) (p1 : 1 ≤ pg) (p2 : pg ≤ 65536)
    (r0 r1 r2 : Int) (L0 L2 : LS) (S0 S1 S2 : DS) (h0 : apL L S n t = (r0, L0, S0)) (h1 : synD S0 1 = (r1, S1)) (h2 : tlL L0 S1 L0.fr pg = (r2, L2, S2)) :
    Calls Tryz.prog 16 #[(.pointer (some ⟨G, 0, none⟩)), .int .i64 n, .string t, .int .i64 pg] X fun e w' => e = .returned (.int .i64 (if r0 = 0 then (if r1 = 0 then r2 else r1) else r0)) ∧ PL w' B D G bp bf (m + m + 2) (if r0 = 0 then (if r1 = 0 then (if r2 = 0 then { L2 with pl := mrg L0.pl L0.fh, fh := fun _ => none } else L2) else L0) else L0) (if r0 = 0 then (if r1 = 0 then S2 else S1) else S0) ∧ BelL G bp bf B X w' := by
  have o0 : okS S0 (k + 1) := by have := apL_ok (L := L) ho n t; rw [h0] at this; exact this
  have o1 : okS S1 (k + 2) := by have := synD_ok o0 1; rw [h1] at this; exact this
  have l0 : okCm L0.last := by have := apL_last L S n t; rw [h0] at this; rw [show L0.last = L.last from this]; exact hc
  have C0 : Hid (∀ W, PL W B D G bp bf m L S → B ≤ W.heap.size → Calls Tryz.prog 13 #[(.pointer (some ⟨G, 0, none⟩)), .int .i64 n, .string t] W fun e w' => e = .returned (.int .i64 r0) ∧ PL w' B D G bp bf (m + 1) L0 S0 ∧ BelL G bp bf B W w') := fun W hW hBW => by
    have := cappend n t W B D G bp bf m k L S hW hBW (by omega) ho (by omega) (by omega)
    rw [h0] at this
    exact this
  have C1 : Hid (∀ W, PDs W B D S0 → B ≤ W.heap.size → Calls Tryz.prog 62 #[(.pointer (some ⟨D, 0, none⟩)), .int .i64 1] W fun e w' => e = .returned (.int .i64 r1) ∧ PDs w' B D S1 ∧ BelT tyP B W w') := fun W hW hBW => by
    have := csyncD 1 W B D S0 (k + 1) hW hBW o0 (by omega)
    rw [h1] at this
    exact this
  have C2 : Hid (∀ W, PL W B D G bp bf (m + 1) L0 S1 → B ≤ W.heap.size → Calls Tryz.prog 63 #[(.pointer (some ⟨G, 0, none⟩)), .int .i64 L0.fr, .int .i64 pg] W fun e w' => e = .returned (.int .i64 r2) ∧ PL w' B D G bp bf (m + 1) L2 S2 ∧ BelL G bp bf B W w') := fun W hW hBW => by
    have := ctellL L0.fr pg W B D G bp bf (m + 1) (k + 2) L0 S1 hW hBW o1 (by omega) l0
    rw [h2] at this
    exact this
  have M2 : Hid (L2.pl = L0.pl ∧ L2.fh = L0.fh) := by have := tlL_maps L0 S1 L0.fr pg; rw [h2] at this; exact this
  have HP : Hid (PL X B D G bp bf m L S) := h
  have HB0 : Hid (B ≤ X.heap.size) := hB
  have q1 : (1 : Int) ≤ (pg : Int) := by omega
  have q2 : (pg : Int) ≤ 65536 := by omega
  clear h hB ho hk hc h0 h1 h2 o0 o1 l0 hf p1 p2
  go_enter Tryz.func16, Tryz.ntmps16
  go_wp2_with fail
  refine (C0.out _ HP.out HB0.out).mono ?_
  rintro e w1 ⟨rfl, hp1, hb1⟩
  have HL1 : Hid _ := hp1
  have HF1 : Hid _ := hb1
  clear hp1 hb1
  by_cases hr0 : r0 = 0
  · subst hr0
    obtain ⟨c0, c1, c2, c3, c4, c5, c6, c7⟩ := HL1.out.cells
    clear c1 c2 c3 c4 c6 c7
    go_wp2_with fail
    refine (C1.out _ HL1.out.dsk (Nat.le_trans HB0.out HF1.out.size)).mono ?_
    rintro e w2 ⟨rfl, hp2, hb2⟩
    have HL2 : Hid (PL w2 B D G bp bf (m + 1) L0 S1) := HL1.out.disk hb2 hp2
    have HF2 : Hid (BelL G bp bf B X w2) := HF1.out.trans (hb2.log G bp bf)
    clear hp2 hb2 c0 c5
    by_cases hr1 : r1 = 0
    · subst hr1
      obtain ⟨c0, c1, c2, c3, c4, c5, c6, c7⟩ := HL2.out.cells
      clear c1 c2 c3 c4 c6 c7
      go_wp2_with fail
      refine (C2.out _ HL2.out (Nat.le_trans HB0.out HF2.out.size)).mono ?_
      rintro e w3 ⟨rfl, hp3, hb3⟩
      have HL3 : Hid _ := hp3
      have HF3 : Hid (BelL G bp bf B X w3) := HF2.out.trans hb3
      clear hp3 hb3 c0 c5
      by_cases hr2 : r2 = 0
      · subst hr2
        obtain ⟨c0, c1, c2, c3, c4, c5, c6, c7⟩ := HL3.out.cells
        obtain ⟨DF, hown, HK⟩ := HL3.out.mf
        have HKK : Hid _ := HK
        clear HK c1 c2 c3 c4 c5 c0
        go_wp2_with (first
          | (at_range; refine wpList_range_own _ rfl _ 94 rfl 3 3 lawI Tryz.underlying94 _ bf (m + 1) _ rfl hown ?_; intro w4 hrg4 hg4 hs4)
          | go_in)
        go_frame
        have hsz := hown.size_le
        have HL4 : Hid (PL w4 B D G bp bf (m + 1) L2 S2) := HL3.out.none hg4
        have HF4 : Hid (BelL G bp bf B X w4) := HF3.out.none HB0.out hg4
        have hr3 : Hid (X.heap.size ≤ w3.heap.size) := HF3.out.size
        clear c6 c7 hg4 hs4
        go_loopw [12] (fun _ wr => ∃ (left : Lit → Bool) (cnt N : Nat), wr.ranges Tryz.prog 3 (plainElem Tryz.prog 3) bf w3.heap.size (m + 1) DF left cnt ∧ N + cnt ≤ m + m + 2 ∧ Hid (∀ x, i64 x → left (.int .i64 x) = true → Maps.has DF (.int .i64 x) = true) ∧ Hid (PL wr B D G bp bf N { L2 with pl := mrgL L0.pl L0.fh left } S2) ∧ Hid (BelL G bp bf B X wr)) (fun _ wr => wr.rangeLeft bf w3.heap.size)
        case atStart =>
          refine ⟨_, _, m + 1, hrg4, by omega, fun x _ h => h, ?_, HF4⟩
          refine HL4.out.congr (fun x hx => ?_)
          have k := (HKK.out x hx).1
          rw [M2.out.2] at k
          unfold mrgL mrg
          rw [M2.out.1]
          cases hF : L0.fh x with
          | none => split <;> rfl
          | some v => rw [k, hF]; rfl
        case round =>
          obtain ⟨left, cnt, N, hrg, hN, HLF, HLr, HFr⟩ := hrel
          obtain ⟨nG, nP, nF⟩ := HLr.out.iter hrg
          have hfar := (iter_far hrg tyP).1
          go_wp2_with (first
            | (at_next; refine wpList_next_ranges_ii _ rfl _ rfl 3 3 .i64 .i64 lawI Tryz.underlying3 Tryz.underlying3 bf w3.heap.size (m + 1) _ _ _ rfl hrg ?_ ?_)
            | go_in)
          · intro hc0 hl0
            obtain ⟨c0, c1, c2, c3, c4, c5, c6, c7⟩ := HLr.out.cells
            clear c0 c1 c2 c3 c4 c5
            obtain ⟨Y, hrun, hMI, hgY⟩ := HLr.out.mf.clear 0
            have HY : Hid (PL Y B D G bp bf (m + m + 2) { L2 with pl := mrg L0.pl L0.fh, fh := fun _ => none } S2) := ((HLr.out.fresh hgY (hMI.mono (Nat.zero_le _)) (Nat.le_refl _)).congr (F := mrg L0.pl L0.fh) (fun x _ => by show _ = mrgL _ _ _ x; unfold mrgL; rw [if_neg (by rw [hl0]; decide)])).mono
            have HFY : Hid (BelL G bp bf B X Y) := HFr.out.trans (grown_log hgY (Nat.le_trans HB0.out HFr.out.size) (.inr (.inr rfl)) HLr.out.low.2.2)
            clear hMI hgY
            go_wp2
            go_ret
            exact ⟨rfl, HY.out, HFY.out⟩
          · intro x c w5 cnt1 hwx hwc hlx hat hrg1 hlt hg1 hs1 hen
            have HL5 : Hid (PL w5 B D G bp bf N { L2 with pl := mrgL L0.pl L0.fh left } S2) := HLr.out.kept hg1 nG nP nF hfar
            have HF5 : Hid (BelL G bp bf B X w5) := HFr.out.newer HB0.out hg1 hr3.out
            obtain ⟨c0, c1, c2, c3, c4, c5, c6, c7⟩ := HL5.out.cells
            clear c0 c1 c2 c3 c4 c5 c7
            obtain ⟨Y, hrun, hMI, hgY⟩ := HL5.out.mp.put (by omega) (x := x) (v := c) hwx hwc
            have HX : Hid (L0.fh x = some c) := by
              show L0.fh x = some c
              have k := HKK.out x hwx
              rw [M2.out.2] at k
              rw [HLF.out x hwx hlx] at k
              cases hF : L0.fh x with
              | none => rw [hF] at k; cases k.1
              | some v =>
                have := (k.2 v hF .nil).symm.trans (hat .nil)
                simp at this
                rw [this]
            have HY : Hid (PL Y B D G bp bf (N + 1) { L2 with pl := mrgL L0.pl L0.fh (fun z => left z && !z.sameKey (.int .i64 x)) } S2) := (HL5.out.places hgY hMI (by omega)).congr (fun y _ => mrg_step HX.out y)
            have HFY : Hid (BelL G bp bf B X Y) := HF5.out.trans (grown_log hgY (Nat.le_trans HB0.out HF5.out.size) (.inr (.inl rfl)) HL5.out.low.2.1)
            have hrg2 := hrg1.kept hgY (fun e => by injection e with e; exact HLr.out.dif e.symm) (fun e => by injection e with e; exact nP e)
            clear hMI hgY
            go_wp2
            go_roundw
            case rel => exact ⟨_, cnt1, N + 1, hrg2, by omega, fun y hy h => HLF.out y hy (by simp at h; exact h.1), HY, HFY⟩
            case measure => rw [hrg2.left_eq, hrg.left_eq]; exact hlt
      · have hr' : (r2 == 0) = false := by simpa using hr2
        go_wp2
        go_ret
        exact ⟨rfl, HL3.out.mono, HF3.out⟩
    · have hr' : (r1 == 0) = false := by simpa using hr1
      go_wp2
      go_ret
      exact ⟨rfl, HL2.out.mono, HF2.out⟩
  · have hr' : (r0 == 0) = false := by simpa using hr0
    go_wp2
    go_ret
    exact ⟨rfl, HL1.out.mono, HF1.out⟩
set_option maxRecDepth 20000 in
theorem ccommit (n : Int) (t : ByteArray) (pg : Int) (X : World) (B D G bp bf m k : Nat) (L : LS) (S : DS) (h : PL X B D G bp bf m L S) (hB : B ≤ X.heap.size) (hm : m ≤ 400000) (ho : okS S k) (hk : k ≤ 800000) (hf : L.fr ≤ 65535) (hc : okCm L.last) :
    Calls Tryz.prog 16 #[(.pointer (some ⟨G, 0, none⟩)), .int .i64 n, .string t, .int .i64 pg] X fun e w' => e = .returned (.int .i64 (cmL L S n t pg).1) ∧ PL w' B D G bp bf (m + m + 2) (cmL L S n t pg).2.1 (cmL L S n t pg).2.2 ∧ BelL G bp bf B X w' := by
  by_cases hp : 1 ≤ pg ∧ pg ≤ 65536
  · obtain ⟨pn, rfl⟩ : ∃ k : Nat, pg = k := ⟨pg.toNat, by omega⟩
    obtain ⟨r0, L0, S0, h0⟩ : ∃ r a b, apL L S n t = (r, a, b) := ⟨_, _, _, rfl⟩
    obtain ⟨r1, S1, h1⟩ : ∃ r a, synD S0 1 = (r, a) := ⟨_, _, rfl⟩
    obtain ⟨r2, L2, S2, h2⟩ : ∃ r a b, tlL L0 S1 L0.fr pn = (r, a, b) := ⟨_, _, _, rfl⟩
    have lp : L0.pl = L.pl := by
      have e : (apL L S n t).2.1.pl = L.pl := by
        unfold apL
        split
        · rfl
        · split
          · rfl
          · split <;> rfl
      rw [h0] at e
      exact e
    have e : cmL L S n t pn = (if r0 = 0 then (if r1 = 0 then r2 else r1) else r0, (if r0 = 0 then (if r1 = 0 then (if r2 = 0 then { L2 with pl := mrg L0.pl L0.fh, fh := fun _ => none } else L2) else L0) else L0), (if r0 = 0 then (if r1 = 0 then S2 else S1) else S0)) := by
      unfold cmL
      rw [if_neg (fun h => h hp), h0]
      by_cases a : r0 = 0
      · rw [if_neg (fun h => h a)]
        show (if ¬ (synD S0 1).1 = 0 then _ else _) = _
        rw [h1]
        by_cases b : r1 = 0
        · rw [if_neg (fun h => h b)]
          show (if ¬ (tlL L0 S1 L0.fr (pn : Int).toNat).1 = 0 then _ else _) = _
          rw [Int.toNat_natCast, h2, if_pos a, if_pos b, if_pos a, if_pos b, if_pos a, if_pos b, lp]
          by_cases c : r2 = 0
          · rw [if_neg (fun h => h c), if_pos c, c]
          · rw [if_pos c, if_neg c]
        · rw [if_pos b, if_pos a, if_neg b, if_pos a, if_neg b, if_pos a, if_neg b]
      · rw [if_pos a, if_neg a, if_neg a, if_neg a]
    rw [e]
    exact ccommit0 n t pn X B D G bp bf m k L S h hB hm ho hk hf hc (by omega) (by omega) r0 r1 r2 L0 L2 S0 S1 S2 h0 h1 h2
  · have e9 : cmL L S n t pg = (1, L, S) := if_pos hp
    rw [e9]
    have HM : Hid (PL X B D G bp bf (m + m + 2) L S) := h.mono
    clear h ho e9
    by_cases p1 : pg < 1
    · go_enter Tryz.func16, Tryz.ntmps16
      go_wp2
      go_ret
      exact ⟨rfl, HM.out, BelL.refl _ _ _ _ _⟩
    · have p2 : 65536 < pg := by omega
      have p3 : decide (pg < 1) = false := decide_eq_false p1
      go_enter Tryz.func16, Tryz.ntmps16
      go_wp2
      go_ret
      exact ⟨rfl, HM.out, BelL.refl _ _ _ _ _⟩
end Go.Proofs.YtfjkockcgddgbaaGreat
