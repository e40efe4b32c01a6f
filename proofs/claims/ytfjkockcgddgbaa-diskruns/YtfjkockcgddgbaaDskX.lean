/- relstoreref's disk: Sync -/
import Derived.Test.YtfjkockcgddgbaaDskW
namespace Go.Proofs.Ytfjkockcgddgbaa
open Go.RowKit Go.Lib
attribute [local go_sem ↓] Go.wp_at_zero Go.wp_at_succ
/- a second row of changes grows: the disk stays -/
theorem RD.keptC {X Y : World} {B B0 D : Nat} {l0 l1 : ByteArray} {vw : Value} {ws : List Chg} {left count : Int} {down : Bool} {n : Nat} {v : Value} {xs : List Value} (h : RD X B D l0 l1 vw ws left count down) (ho : X.ownsRow B0 102 4 v n xs) (hv : ∀ g, vw.ownBlock = some g → g < B0) (hg : X.grownBy Y v.ownBlock) : RD Y B D l0 l1 vw ws left count down := by
  refine ⟨(hg.block D h.lt (neD' (row_neD h.blk (by decide) ho))).trans h.blk, h.low, World.ownsRow.kept h.wrow hg ?_, h.s0, h.s1, h.oks⟩
  rcases ho.2 with ⟨e1, _⟩ | ⟨g', cap, cur, e1, hlo, _⟩
  · rw [e1]
    cases hq : vw.ownBlock with
    | none => exact .inl rfl
    | some b => exact .inr (fun h => by cases h)
  · rw [e1]
    exact none_or (fun b hb e => by have h1 := hv b hb; have e : b = g' := e; omega)
/- the changes that wait are others -/
theorem RD.setW {X : World} {B B0 D : Nat} {l0 l1 : ByteArray} {vw : Value} {ws ws' : List Chg} {left count : Int} {down : Bool} {v : Value} (h : RD X B D l0 l1 vw ws left count down) (ho : X.ownsRow B0 102 4 v ws'.length (chgsCells ws')) (hB : B ≤ B0) (hok : ∀ x ∈ ws', okC x) : RD (X.setCell ⟨D, 2, none⟩ v) B D l0 l1 v ws' left count down := by
  have hset := set_grown X D 2 v
  refine ⟨by rw [set_blk h.blk]; rfl, h.low, ?_, h.s0, h.s1, hok⟩
  have := World.ownsRow.kept ho hset (row_neD h.blk (by decide) ho)
  refine ⟨this.1, ?_⟩
  rcases this.2 with h' | ⟨g, cap, cur, h1, h2, h3⟩
  · exact .inl h'
  · exact .inr ⟨g, cap, cur, h1, Nat.le_trans hB h2, h3⟩
theorem RD.vwlt {X : World} {B D : Nat} {l0 l1 : ByteArray} {vw : Value} {ws : List Chg} {left count : Int} {down : Bool} (h : RD X B D l0 l1 vw ws left count down) : ∀ g, vw.ownBlock = some g → g < X.heap.size := fun g hg => (World.ownsRow.lt h.wrow g hg).2
theorem below_appA {w X Y : World} {B B0 : Nat} {v : Value} {n : Nat} {xs : List Value} (h : BelT tyR B w X) (ho : X.ownsRow B0 102 4 v n xs) (hB : B ≤ B0) (hX : B ≤ X.heap.size) (hg : X.grownBy Y v.ownBlock) : BelT tyR B w Y :=
  h.trans (BelT.row hg hX (fun b e => ⟨Nat.le_trans hB (row_nf (T := tyR) (by decide) ho b e).1, (row_nf (by decide) ho b e).2⟩))
theorem BelT.ofSize {T : TypeId → Bool} {B : Nat} {w X : World} (h : Below w.heap.size w X) (hB : B ≤ w.heap.size) : BelT T B w X := ⟨h.mono hB, fun b hb _ => h.block b hb⟩
/- what Sync answers, and makes of the disk -/
def rsynPost (f : Int) (X : World) (B D : Nat) (l0 l1 : ByteArray) (vw : Value) (ws : List Chg) (left count : Int) (down : Bool) (e : Ending) (w' : World) : Prop :=
  (fitsD f 0 0 = false ∧ e = .returned (.int .i64 1) ∧ w' = X) ∨
  (fitsD f 0 0 = true ∧ (down = true ∨ left = 0) ∧ e = .returned (.int .i64 2) ∧ RD w' B D l0 l1 vw ws left count true ∧ BelT tyR B X w') ∨
  (fitsD f 0 0 = true ∧ down = false ∧ ¬ left = 0 ∧ e = .returned (.int .i64 0) ∧ (∃ (f' : Nat) (l0' l1' : ByteArray) (vw' : Value), f = f' ∧ f' < 2 ∧ RD w' B D l0' l1' vw' (othF f' ws) (decL left) (count + 1) false ∧ (f' = 0 → ll l0' = foldF 0 ws (ll l0) ∧ l1' = l1) ∧ (f' = 1 → l0' = l0 ∧ ll l1' = foldF 1 ws (ll l1))) ∧ BelT tyR B X w')
theorem drew_below (w : World) (m : Nat) : Below w.heap.size w (w.drewN m) := ⟨rfl, rfl, rfl, Nat.le_refl _, fun _ _ => rfl⟩
theorem undrew_below {w X : World} {m : Nat} (h : Below (w.drewN m).heap.size (w.drewN m) X) : Below w.heap.size w X := ⟨h.os, h.tape, h.output, h.size, h.block⟩
theorem rseen0E (X : World) (B D : Nat) (l0 l1 : ByteArray) (vw : Value) (ws : List Chg) (left count : Int) (down : Bool) (h : RD X B D l0 l1 vw ws left count down) (hw : ws.length ≤ 1000000) :
    Calls Try.prog 40 #[(.pointer (some ⟨D, 0, none⟩)), .int .i64 0] X fun e w' => ∃ y : ByteArray, e = .returned (.string y) ∧ ll y = foldF 0 ws (ll l0) ∧ Below X.heap.size X w' :=
  (rseen0 X B D l0 l1 vw ws left count down h hw).mono fun _ _ hh => ⟨_, hh.1, rfl, hh.2⟩
theorem rseen1E (X : World) (B D : Nat) (l0 l1 : ByteArray) (vw : Value) (ws : List Chg) (left count : Int) (down : Bool) (h : RD X B D l0 l1 vw ws left count down) (hw : ws.length ≤ 1000000) :
    Calls Try.prog 40 #[(.pointer (some ⟨D, 0, none⟩)), .int .i64 1] X fun e w' => ∃ y : ByteArray, e = .returned (.string y) ∧ ll y = foldF 1 ws (ll l1) ∧ Below X.heap.size X w' :=
  (rseen1 X B D l0 l1 vw ws left count down h hw).mono fun _ _ hh => ⟨_, hh.1, rfl, hh.2⟩
set_option maxRecDepth 20000 in
set_option maxHeartbeats 1000000 in
theorem rsync (f : Int) (X : World) (B D : Nat) (l0 l1 : ByteArray) (vw : Value) (ws : List Chg) (left count : Int) (down : Bool) (h : RD X B D l0 l1 vw ws left count down) (hB : B ≤ X.heap.size) (hl : -9223372036854775808 ≤ left ∧ left ≤ 9223372036854775807) (hc : 0 ≤ count ∧ count ≤ 4611686018427387904) (hw : ws.length ≤ 1000000) :
    Calls Try.prog 34 #[(.pointer (some ⟨D, 0, none⟩)), .int .i64 f] X (rsynPost f X B D l0 l1 vw ws left count down) := by
  have H : Hid (RD X B D l0 l1 vw ws left count down) := h
  obtain ⟨i0, hi, hz0, hz1, hz2⟩ := info_parts infoA
  have hlow := h.low
  obtain ⟨aw, cw, rfl⟩ := owns_sliceA h.wrow
  clear h
  by_cases hf : fitsD f 0 0 = true
  · obtain ⟨f', p', rfl, -, hf2, -, -⟩ := fits_nat hf
    have HF : Hid _ := hf
    have HI : Hid _ := (in_fits f').trans hf
    clear hf
    go_enter Try.func34, Try.ntmps34
    go_wp2_with fail
    refine (rin f' 0 1 X).mono ?_
    rintro e w ⟨rfl, rfl⟩
    rw [HI.out]
    go_wp2_with fail
    refine (rturn w B D l0 l1 _ ws left count down H.out hl hc).mono ?_
    rintro e w1 h
    rcases h with ⟨h0, rfl, hP, hb⟩ | ⟨hd, h0, rfl, hP, hb⟩
    · have HBB : Hid (BelT tyR B w w1) := rbut_below hb hB hlow H.out.nf
      have HP : Hid _ := hP
      have H0 : Hid _ := h0
      clear h0 hP hb
      go_wp2_with fail
      go_ret
      exact .inr (.inl ⟨HF.out, H0.out, rfl, HP.out, HBB.out⟩)
    have HBB : Hid (BelT tyR B w w1) := rbut_below hb hB hlow H.out.nf
    have HP : Hid (RD w1 B D l0 l1 (.slice aw ws.length cw) ws (decL left) (count + 1) false) := hP
    have hB1 : B ≤ w1.heap.size := Nat.le_trans hB HBB.out.size
    have HV : Hid _ := HP.out.vwlt
    have HD : Hid _ := hd
    have H0 : Hid _ := h0
    have c2 := HP.out.cells.2.2.1
    clear hd h0 hP hb
    rcases (show f' = 0 ∨ f' = 1 by omega) with rfl | rfl
    · go_wp2_with fail
      go_region_with (go_at_call 40; refine (rseen0E _ B D l0 l1 _ ws _ _ false (HP.out.below (drew_below _ _)) hw).mono ?_; rintro e w2 ⟨y, rfl, hy, hb⟩; have HY : Hid _ := hy; have HY2 : Hid (y.size ≤ 67108864) := (by show y.size ≤ 67108864; rw [← ll_len, hy]; exact foldF_len HP.out.oks (by rw [ll_len]; exact HP.out.s0)); have HQ : Hid (RD w2 B D l0 l1 (.slice aw ws.length cw) ws (decL left) (count + 1) false) := HP.out.below (undrew_below hb); have HBQ : Hid (BelT tyR B w1 w2) := BelT.ofSize (undrew_below hb) hB1; have q0 := HQ.out.cells.1; have f0 := HQ.out.unfrozen 0; clear hb hy)
      all_goals
        have HS : Hid (RD (w2.setCell ⟨D, 0, none⟩ (.string y)) B D y l1 (.slice aw ws.length cw) ws (decL left) (count + 1) false) := HQ.out.own HY2.out HQ.out.s1 rfl
        have HBS : Hid (BelT tyR B w1 (w2.setCell ⟨D, 0, none⟩ (.string y))) := HBQ.out.setCell hlow (fun _ => HP.out.nf) _
        have c2' := HS.out.cells.2.2.1
        clear HQ HBQ q0 f0
        generalize w2.setCell ⟨D, 0, none⟩ (.string y) = W at *
        have hBW : B ≤ W.heap.size := Nat.le_trans hB1 HBS.out.size
        have HVW : Hid _ := HS.out.vwlt
        go_wp2_with fail
        go_loopw [6, 30] (fun v u X => ∃ (i : Nat), u = .int .i64 i ∧ i ≤ ws.length ∧ Hid (X.ownsRow W.heap.size 102 4 v (othF 0 (ws.take i)).length (chgsCells (othF 0 (ws.take i)))) ∧ Hid (RD X B D y l1 (.slice aw ws.length cw) ws (decL left) (count + 1) false) ∧ Hid (BelT tyR B W X)) (fun _ u _ => ws.length - (intOf u).toNat)
        case atStart => exact ⟨0, rfl, Nat.zero_le _, World.ownsRow_nil _ _ _ _, HS, BelT.refl _ _ _⟩
        case round =>
          obtain ⟨i, rfl, hin, HO, HQ, HB⟩ := hrel
          by_cases hlt : i < ws.length
          · have ki : (0 : Int) ≤ (i : Int) := by omega
            have kn : (i : Int) < (ws.length : Int) := by omega
            obtain ⟨g, cap', ee, _, _⟩ := World.ownsRow.form HQ.out.wrow (by omega)
            injection ee with ee1 ee2 ee3
            subst ee1 ee3
            obtain ⟨xf, p, t, c, hx⟩ : ∃ xf p t c, ws[i] = (⟨xf, p, t, c⟩ : Chg) := ⟨_, _, _, _, rfl⟩
            obtain ⟨d0, d1, d2, d3⟩ := racells HQ.out hlt hx
            have HT : Hid (ws.take (i + 1) = ws.take i ++ [⟨xf, p, t, c⟩]) := (by rw [take_snoc hlt, hx] : ws.take (i + 1) = ws.take i ++ [⟨xf, p, t, c⟩])
            have zb := HB.out.size
            have zg := HQ.out.vwlt g rfl
            have hole := othF_le 0 (ws.take i)
            rw [List.length_take] at hole
            clear hx
            have H1 : Hid (RD (wr.alloc (.cells #[.int .i64 xf, .int .i64 p, .string t, .bool c] 102)) B D y l1 (.slice (some ⟨g, 0, none⟩) ws.length cw) ws (decL left) (count + 1) false) := HQ.out.below ((Below.refl _ _).alloc (Nat.le_refl _) _)
            have hBwr : B ≤ wr.heap.size := Nat.le_trans hBW zb
            by_cases hxf : xf = 0
            · subst hxf
              have HO2 : Hid ((wr.alloc (.cells #[.int .i64 (0 : Nat), .int .i64 p, .string t, .bool c] 102)).ownsRow W.heap.size 102 4 u6 (othF 0 (ws.take (i + 1))).length (chgsCells (othF 0 (ws.take (i + 1))))) := by
                show (wr.alloc _).ownsRow W.heap.size 102 4 u6 (othF 0 (ws.take (i + 1))).length (chgsCells (othF 0 (ws.take (i + 1))))
                rw [HT.out, othF_snoc, if_pos rfl]
                exact World.ownsRow.alloc HO.out _
              have HB2 : Hid (BelT tyR B W (wr.alloc (.cells #[.int .i64 (0 : Nat), .int .i64 p, .string t, .bool c] 102))) := HB.out.alloc hBwr _
              go_wp2_with fail
              exact ⟨⟨i + 1, rfl, by omega, HO2, H1, HB2⟩, by simp [intOf]; omega⟩
            · have hxf' : ¬ (xf : Int) = 0 := by omega
              have HOa : Hid ((wr.alloc (.cells #[.int .i64 xf, .int .i64 p, .string t, .bool c] 102)).ownsRow W.heap.size 102 4 u6 (othF 0 (ws.take i)).length (chgsCells (othF 0 (ws.take i)))) := World.ownsRow.alloc HO.out _
              have hn1 := newsA (wr.alloc (.cells #[.int .i64 xf, .int .i64 p, .string t, .bool c] 102)) xf p t c
              have HN : Hid _ := hn1
              clear hn1
              go_wp2_with (at_builtin; go_must (refine wpList_append_lies _ rfl _ _ _ rfl W.heap.size 102 i0 (.agg #[.int .i64 0, .int .i64 0, .string ⟨#[]⟩, .bool false]) 4 40 Try.underlying64 hi hz0 hz1 hz2 rfl (by decide) _ (othF 0 (ws.take i)).length (chgsCells (othF 0 (ws.take i))) rfl (World.ownsRow.alloc HOa.out _) ⟨wr.heap.size + 1, 0, none⟩ 1 1 [.int .i64 xf, .int .i64 p, .string t, .bool c] rfl rfl ?n0 ?r00 (by decide) ?r10 ?r20 ?r30 (wr.heap.size + 2) (by simp) ?_))
              case r00 => simp [Value.oneCell']
              case r10 => unfold maxLen; omega
              case r20 => omega
              case r30 => first | omega | (simp; omega)
              intro g' cap2 w4 hown2 hgrow2 hat2 hlt4
              have HB4 : Hid (BelT tyR B W w4) := below_appA ((HB.out.alloc hBwr _).alloc (by simp; omega) _) (World.ownsRow.alloc HOa.out _) hBW (by simp; omega) hgrow2
              have HQ4 : Hid (RD w4 B D y l1 (.slice (some ⟨g, 0, none⟩) ws.length cw) ws (decL left) (count + 1) false) := RD.keptC (H1.out.below ((Below.refl _ _).alloc (Nat.le_refl _) _)) (World.ownsRow.alloc HOa.out _) HVW.out hgrow2
              have HO4 : Hid (w4.ownsRow W.heap.size 102 4 (.slice (some ⟨g', 0, none⟩) ((othF 0 (ws.take i)).length + 1) cap2) (othF 0 (ws.take (i + 1))).length (chgsCells (othF 0 (ws.take (i + 1))))) := by
                show w4.ownsRow W.heap.size 102 4 (.slice (some ⟨g', 0, none⟩) ((othF 0 (ws.take i)).length + 1) cap2) (othF 0 (ws.take (i + 1))).length (chgsCells (othF 0 (ws.take (i + 1))))
                rw [HT.out, othF_snoc, if_neg hxf, List.length_append, chgs_snoc]
                exact hown2
              clear hown2 hgrow2 hat2 hlt4 d0 d1 d2 d3
              go_wp2
              go_roundw
              case rel => exact ⟨i + 1, by go_num, by omega, HO4, HQ4, HB4⟩
              case measure => simp [intOf]; omega
          · obtain rfl : i = ws.length := by omega
            rw [List.take_length] at HO
            obtain ⟨a6, c6, rfl⟩ := owns_sliceA HO.out
            have p2 := HQ.out.cells.2.2.1
            have f2 := HQ.out.unfrozen 2
            have HFF : Hid _ := RD.setW HQ.out HO.out hBW (othF_ok HQ.out.oks)
            go_wp2_with fail
            go_ret
            exact .inr (.inr ⟨HF.out, HD.out, H0.out, rfl, ⟨0, y, l1, _, rfl, by decide, HFF.out, fun _ => ⟨HY.out, rfl⟩, (fun h => by cases h)⟩, (HBB.out.trans HBS.out).trans (HB.out.setCell hlow (fun _ => HS.out.nf) _)⟩)
    · go_wp2_with fail
      go_region_with (go_at_call 40; refine (rseen1E _ B D l0 l1 _ ws _ _ false (HP.out.below (drew_below _ _)) hw).mono ?_; rintro e w2 ⟨y, rfl, hy, hb⟩; have HY : Hid _ := hy; have HY2 : Hid (y.size ≤ 67108864) := (by show y.size ≤ 67108864; rw [← ll_len, hy]; exact foldF_len HP.out.oks (by rw [ll_len]; exact HP.out.s1)); have HQ : Hid (RD w2 B D l0 l1 (.slice aw ws.length cw) ws (decL left) (count + 1) false) := HP.out.below (undrew_below hb); have HBQ : Hid (BelT tyR B w1 w2) := BelT.ofSize (undrew_below hb) hB1; have q1 := HQ.out.cells.2.1; have f1 := HQ.out.unfrozen 1; clear hb hy)
      all_goals
        have HS : Hid (RD (w2.setCell ⟨D, 1, none⟩ (.string y)) B D l0 y (.slice aw ws.length cw) ws (decL left) (count + 1) false) := HQ.out.own HQ.out.s0 HY2.out rfl
        have HBS : Hid (BelT tyR B w1 (w2.setCell ⟨D, 1, none⟩ (.string y))) := HBQ.out.setCell hlow (fun _ => HP.out.nf) _
        have c2' := HS.out.cells.2.2.1
        clear HQ HBQ q1 f1
        generalize w2.setCell ⟨D, 1, none⟩ (.string y) = W at *
        have hBW : B ≤ W.heap.size := Nat.le_trans hB1 HBS.out.size
        have HVW : Hid _ := HS.out.vwlt
        go_wp2_with fail
        go_loopw [6, 30] (fun v u X => ∃ (i : Nat), u = .int .i64 i ∧ i ≤ ws.length ∧ Hid (X.ownsRow W.heap.size 102 4 v (othF 1 (ws.take i)).length (chgsCells (othF 1 (ws.take i)))) ∧ Hid (RD X B D l0 y (.slice aw ws.length cw) ws (decL left) (count + 1) false) ∧ Hid (BelT tyR B W X)) (fun _ u _ => ws.length - (intOf u).toNat)
        case atStart => exact ⟨0, rfl, Nat.zero_le _, World.ownsRow_nil _ _ _ _, HS, BelT.refl _ _ _⟩
        case round =>
          obtain ⟨i, rfl, hin, HO, HQ, HB⟩ := hrel
          by_cases hlt : i < ws.length
          · have ki : (0 : Int) ≤ (i : Int) := by omega
            have kn : (i : Int) < (ws.length : Int) := by omega
            obtain ⟨g, cap', ee, _, _⟩ := World.ownsRow.form HQ.out.wrow (by omega)
            injection ee with ee1 ee2 ee3
            subst ee1 ee3
            obtain ⟨xf, p, t, c, hx⟩ : ∃ xf p t c, ws[i] = (⟨xf, p, t, c⟩ : Chg) := ⟨_, _, _, _, rfl⟩
            obtain ⟨d0, d1, d2, d3⟩ := racells HQ.out hlt hx
            have HT : Hid (ws.take (i + 1) = ws.take i ++ [⟨xf, p, t, c⟩]) := (by rw [take_snoc hlt, hx] : ws.take (i + 1) = ws.take i ++ [⟨xf, p, t, c⟩])
            have zb := HB.out.size
            have zg := HQ.out.vwlt g rfl
            have hole := othF_le 1 (ws.take i)
            rw [List.length_take] at hole
            clear hx
            have H1 : Hid (RD (wr.alloc (.cells #[.int .i64 xf, .int .i64 p, .string t, .bool c] 102)) B D l0 y (.slice (some ⟨g, 0, none⟩) ws.length cw) ws (decL left) (count + 1) false) := HQ.out.below ((Below.refl _ _).alloc (Nat.le_refl _) _)
            have hBwr : B ≤ wr.heap.size := Nat.le_trans hBW zb
            by_cases hxf : xf = 1
            · subst hxf
              have HO2 : Hid ((wr.alloc (.cells #[.int .i64 (1 : Nat), .int .i64 p, .string t, .bool c] 102)).ownsRow W.heap.size 102 4 u6 (othF 1 (ws.take (i + 1))).length (chgsCells (othF 1 (ws.take (i + 1))))) := by
                show (wr.alloc _).ownsRow W.heap.size 102 4 u6 (othF 1 (ws.take (i + 1))).length (chgsCells (othF 1 (ws.take (i + 1))))
                rw [HT.out, othF_snoc, if_pos rfl]
                exact World.ownsRow.alloc HO.out _
              have HB2 : Hid (BelT tyR B W (wr.alloc (.cells #[.int .i64 (1 : Nat), .int .i64 p, .string t, .bool c] 102))) := HB.out.alloc hBwr _
              go_wp2_with fail
              exact ⟨⟨i + 1, rfl, by omega, HO2, H1, HB2⟩, by simp [intOf]; omega⟩
            · have hxf' : ¬ (xf : Int) = 1 := by omega
              have HOa : Hid ((wr.alloc (.cells #[.int .i64 xf, .int .i64 p, .string t, .bool c] 102)).ownsRow W.heap.size 102 4 u6 (othF 1 (ws.take i)).length (chgsCells (othF 1 (ws.take i)))) := World.ownsRow.alloc HO.out _
              have hn1 := newsA (wr.alloc (.cells #[.int .i64 xf, .int .i64 p, .string t, .bool c] 102)) xf p t c
              have HN : Hid _ := hn1
              clear hn1
              go_wp2_with (at_builtin; go_must (refine wpList_append_lies _ rfl _ _ _ rfl W.heap.size 102 i0 (.agg #[.int .i64 0, .int .i64 0, .string ⟨#[]⟩, .bool false]) 4 40 Try.underlying64 hi hz0 hz1 hz2 rfl (by decide) _ (othF 1 (ws.take i)).length (chgsCells (othF 1 (ws.take i))) rfl (World.ownsRow.alloc HOa.out _) ⟨wr.heap.size + 1, 0, none⟩ 1 1 [.int .i64 xf, .int .i64 p, .string t, .bool c] rfl rfl ?n1 ?r01 (by decide) ?r11 ?r21 ?r31 (wr.heap.size + 2) (by simp) ?_))
              case r01 => simp [Value.oneCell']
              case r11 => unfold maxLen; omega
              case r21 => omega
              case r31 => first | omega | (simp; omega)
              intro g' cap2 w4 hown2 hgrow2 hat2 hlt4
              have HB4 : Hid (BelT tyR B W w4) := below_appA ((HB.out.alloc hBwr _).alloc (by simp; omega) _) (World.ownsRow.alloc HOa.out _) hBW (by simp; omega) hgrow2
              have HQ4 : Hid (RD w4 B D l0 y (.slice (some ⟨g, 0, none⟩) ws.length cw) ws (decL left) (count + 1) false) := RD.keptC (H1.out.below ((Below.refl _ _).alloc (Nat.le_refl _) _)) (World.ownsRow.alloc HOa.out _) HVW.out hgrow2
              have HO4 : Hid (w4.ownsRow W.heap.size 102 4 (.slice (some ⟨g', 0, none⟩) ((othF 1 (ws.take i)).length + 1) cap2) (othF 1 (ws.take (i + 1))).length (chgsCells (othF 1 (ws.take (i + 1))))) := by
                show w4.ownsRow W.heap.size 102 4 (.slice (some ⟨g', 0, none⟩) ((othF 1 (ws.take i)).length + 1) cap2) (othF 1 (ws.take (i + 1))).length (chgsCells (othF 1 (ws.take (i + 1))))
                rw [HT.out, othF_snoc, if_neg hxf, List.length_append, chgs_snoc]
                exact hown2
              clear hown2 hgrow2 hat2 hlt4 d0 d1 d2 d3
              go_wp2
              go_roundw
              case rel => exact ⟨i + 1, by go_num, by omega, HO4, HQ4, HB4⟩
              case measure => simp [intOf]; omega
          · obtain rfl : i = ws.length := by omega
            rw [List.take_length] at HO
            obtain ⟨a6, c6, rfl⟩ := owns_sliceA HO.out
            have p2 := HQ.out.cells.2.2.1
            have f2 := HQ.out.unfrozen 2
            have HFF : Hid _ := RD.setW HQ.out HO.out hBW (othF_ok HQ.out.oks)
            go_wp2_with fail
            go_ret
            exact .inr (.inr ⟨HF.out, HD.out, H0.out, rfl, ⟨1, l0, y, _, rfl, by decide, HFF.out, (fun h => by cases h), fun _ => ⟨rfl, HY.out⟩⟩, (HBB.out.trans HBS.out).trans (HB.out.setCell hlow (fun _ => HS.out.nf) _)⟩)
  · have hf' : fitsD f 0 0 = false := by simpa using hf
    have HF : Hid _ := hf'
    have HI : Hid _ := (in_fits f).trans hf'
    clear hf hf'
    go_enter Try.func34, Try.ntmps34
    go_wp2_with fail
    refine (rin f 0 1 X).mono ?_
    rintro e w ⟨rfl, rfl⟩
    rw [HI.out]
    go_wp2_with fail
    go_ret
    exact .inl ⟨HF.out, rfl, rfl⟩
end Go.Proofs.Ytfjkockcgddgbaa
