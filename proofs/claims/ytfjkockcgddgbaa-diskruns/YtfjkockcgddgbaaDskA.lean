/- package disk: Crash -/
import Derived.Test.YtfjkockcgddgbaaDsk9
namespace Go.Proofs.Ytfjkockcgddgbaa
open Go.RowKit Go.Lib
attribute [local go_sem ↓] Go.wp_at_zero Go.wp_at_succ
theorem clast (f p : Nat) (t : ByteArray) (c : Bool) (hx : okC ⟨f, p, t, c⟩) (X : World) (B D : Nat) (vb : Nat → Value) (vw : Value) (lb : Nat → List UInt8) (ws : List Chg) (left count : Int) (down : Bool) (h : PD X B D vb vw lb ws left count down) (hB : B ≤ X.heap.size) :
    Calls Try.prog 50 #[(.pointer (some ⟨D, 0, none⟩)), (.agg #[.int .i64 (f : Int), .int .i64 (p : Int), .string t, .bool c])] X fun e w' => e = .returned (.tuple #[]) ∧ (∃ v', PD w' B D (updF vb (2 * f + 1) v') vw (updF lb (2 * f + 1) (onL p t c (lb (2 * f + 1)))) ws left count down) ∧ BelT tyP B X w' := by
  obtain ⟨h1, h2, h3⟩ := hx
  have h1 : f < 2 := h1
  rcases (show f = 0 ∨ f = 1 by omega) with rfl | rfl
  · exact (clast0 p t c h2 h3 X B D vb vw lb ws left count down h hB).mono fun e w' hh => ⟨hh.1, hh.2.1, hh.2.2.1⟩
  · exact (clast1 p t c h2 h3 X B D vb vw lb ws left count down h hB).mono fun e w' hh => ⟨hh.1, hh.2.1, hh.2.2.1⟩
/- half of a text; what a change that waits makes of the disk's bytes when it crashes -/
def half (t : ByteArray) : ByteArray := t.extract 0 (t.size / 2)
/- what lasts is seen, of so many files -/
def cpL (l : Nat → List UInt8) : Nat → Nat → List UInt8
  | 0 => l
  | j + 1 => updF (cpL l j) (2 * j) (l (2 * j + 1))
theorem half_size (t : ByteArray) : (half t).size = t.size / 2 := by unfold half; rw [ByteArray.size_extract]; omega
def crS (fa : Int) (x : Chg) (l : Nat → List UInt8) : Nat → List UInt8 :=
  if fa = 1 then updF l (2 * x.f + 1) (onL x.p x.t x.c (l (2 * x.f + 1))) else if fa = 2 then updF l (2 * x.f + 1) (onL x.p (half x.t) x.c (l (2 * x.f + 1))) else l
def crL (fa : Nat → Int) (ws : List Chg) (lb : Nat → List UInt8) : Nat → Nat → List UInt8
  | 0 => lb
  | i + 1 => match ws[i]? with
    | none => crL fa ws lb i
    | some x => crS (fa i) x (crL fa ws lb i)
theorem crL_succ {fa : Nat → Int} {ws : List Chg} {lb : Nat → List UInt8} {i : Nat} (h : i < ws.length) : crL fa ws lb (i + 1) = crS (fa i) ws[i] (crL fa ws lb i) := by
  rw [crL, List.getElem?_eq_getElem h]
/- numbers at rest: below B, or in a block of another type -/
def liesI (T : TypeId → Bool) (X : World) (B : Nat) (a : Option Addr) (n : Nat) (f : Nat → Int) : Prop := n = 0 ∨ ∃ b off, a = some ⟨b, off, none⟩ ∧ (b < B ∨ (b < X.heap.size ∧ farT T X b)) ∧ ∀ j, j < n → X.cell? ⟨b, off + j, none⟩ = some (.int .i64 (f j))
theorem liesI.below {T : TypeId → Bool} {X Y : World} {B : Nat} {a : Option Addr} {n : Nat} {f : Nat → Int} (h : liesI T X B a n f) (hb : BelT T B X Y) : n = 0 ∨ ∃ b off, a = some ⟨b, off, none⟩ ∧ ∀ j, j < n → Y.cell? ⟨b, off + j, none⟩ = some (.int .i64 (f j)) := by
  rcases h with h | ⟨b, off, e, hl, hc⟩
  · exact .inl h
  · have hbb : Y.heap[b]? = X.heap[b]? := by
      rcases hl with hl | ⟨hl, hf⟩
      · exact hb.block b hl
      · exact hb.far b hl hf
    exact .inr ⟨b, off, e, fun j hj => (World.cell?_of_block hbb).trans (hc j hj)⟩
theorem cp_pack {X Y : World} {m B D : Nat} {vb : Nat → Value} {vw : Value} {lb : Nat → List UInt8} {ws : List Chg} {left count : Int} {down : Bool} {k : Nat} {M : List UInt8} {a0 : Option Addr} {n0 p0 g cap : Nat} (h : PD X B D vb vw lb ws left count down) (hk : k < 4) (e0 : vb k = .slice a0 n0 p0)
    (hr : Y.ownsRow B 5 1 (.slice (some ⟨g, 0, none⟩) M.length cap) M.length (valsB M)) (hg : (X.drewN m).grownBy Y (Value.slice a0 0 p0).ownBlock) (hat : (Value.slice a0 0 p0).ownBlock = some g ∨ g = X.heap.size) (hM : M.length ≤ 67108864) (hB : B ≤ X.heap.size) :
    PD (Y.setCell ⟨D, k, none⟩ (.slice (some ⟨g, 0, none⟩) M.length cap)) B D (updF vb k (.slice (some ⟨g, 0, none⟩) M.length cap)) vw (updF lb k M) ws left count down ∧ Y.cell? ⟨D, k, none⟩ = some (vb k) ∧ Y.frozen? ⟨D, k, none⟩ = false ∧ BelT tyP B X Y := by
  have eo : (Value.slice a0 0 p0).ownBlock = (vb k).ownBlock := by rw [e0]; cases a0 <;> rfl
  rw [eo] at hg hat
  have hb : But X Y (vb k).ownBlock := ⟨hg.os, hg.tape, hg.output, hg.size, hg.block⟩
  have hn : newB X (vb k) (.slice (some ⟨g, 0, none⟩) M.length cap) := by
    rcases hat with hat | hat
    · exact .inl hat.symm
    · exact .inr ⟨g, rfl, by omega⟩
  have hne := neD' (row_neD h.blk (by decide) (h.rows k hk))
  refine ⟨PD.put h hk hb hr hn hM, hb.cell (h.cellk hk) hne, (World.frozen?_of_block (hb.block D h.lt hne)).trans (h.unfrozen k), ?_⟩
  exact BelT.row hb hB (row_nf (by decide) (h.rows k hk))
theorem cp_pack0 {X : World} {m B D : Nat} {vb : Nat → Value} {vw : Value} {lb : Nat → List UInt8} {ws : List Chg} {left count : Int} {down : Bool} {k : Nat} {M : List UInt8} {a0 : Option Addr} {n0 p0 : Nat} (h : PD X B D vb vw lb ws left count down) (hk : k < 4) (e0 : vb k = .slice a0 n0 p0)
    (hr : X.ownsRow B 5 1 (.slice a0 0 p0) 0 []) (hM : M.length = 0) : PD ((X.drewN m).setCell ⟨D, k, none⟩ (.slice a0 0 p0)) B D (updF vb k (.slice a0 0 p0)) vw (updF lb k M) ws left count down := by
  obtain rfl : M = [] := List.eq_nil_of_length_eq_zero hM
  have hb : But X (X.drewN m) (vb k).ownBlock := ⟨rfl, rfl, rfl, Nat.le_refl _, fun _ _ _ => rfl⟩
  exact PD.put h hk hb hr (.inl (by rw [e0]; cases a0 <;> rfl)) (Nat.zero_le _)
theorem lies_row {W : World} {B g n cap : Nat} {l : List UInt8} (h : W.ownsRow B 5 1 (.slice (some ⟨g, 0, none⟩) n cap) n (valsB l)) : ∀ j u, (valsB l)[j]? = some u → W.cell? ((⟨g, 0, none⟩ : Addr).add j) = some u := fun j u hj => by
  have h1 := h.1
  have hlt : j < (valsB l).length := (List.getElem?_eq_some_iff.1 hj).1
  rw [Addr.add_lit, Nat.zero_add, h.cellAt j (by omega), hj]
set_option maxRecDepth 20000 in
set_option maxHeartbeats 1000000 in
theorem ccrash (a : Option Addr) (n cap : Nat) (fk : Nat → Int) (X : World) (B D : Nat) (vb : Nat → Value) (vw : Value) (lb : Nat → List UInt8) (ws : List Chg) (left count : Int) (down : Bool) (h : PD X B D vb vw lb ws left count down) (hB : B ≤ X.heap.size) (hw : ws.length ≤ 1000000) (hn : n ≤ 140737488355328) (hk : liesI tyP X B a n fk) :
    Calls Try.prog 21 #[(.pointer (some ⟨D, 0, none⟩)), .slice a n cap] X fun e w' => e = .returned (.tuple #[]) ∧ (∃ vb', PD w' B D vb' (.slice none 0 0) (cpL (crL (fateI n fk) ws lb ws.length) 2) [] (-1) count false) ∧ BelT tyP B X w' := by
  have H : Hid (PD X B D vb vw lb ws left count down) := h
  have HK : Hid (liesI tyP X B a n fk) := hk
  have hlow := h.low
  obtain ⟨aw, cw, rfl⟩ := owns_sliceC h.wrow
  have c4 := h.cells.2.2.2.2.1
  have HNF : Hid (¬ farT tyP X D) := h.nf
  clear h hk
  go_enter Try.func21, Try.ntmps21
  go_wp2_with fail
  go_loopw [13] (fun y w => ∃ (i : Nat) (vb' : Nat → Value), y = .int .i64 i ∧ i ≤ ws.length ∧ Hid (PD w B D vb' (.slice aw ws.length cw) (crL (fateI n fk) ws lb i) ws left count down) ∧ Hid (BelT tyP B X w)) (fun y _ => ws.length - (intOf y).toNat)
  case atStart => exact ⟨0, vb, rfl, Nat.zero_le _, H, BelT.refl _ _ _⟩
  case round =>
    obtain ⟨i, vb', rfl, hin, HQ, HB⟩ := hrel
    by_cases hlt : i < ws.length
    · have ki : (0 : Int) ≤ (i : Int) := by omega
      have kn : (i : Int) < (ws.length : Int) := by omega
      obtain ⟨g, cap', ee, _, _⟩ := World.ownsRow.form HQ.out.wrow (by omega)
      injection ee with ee1 ee2 ee3
      subst ee1 ee3
      obtain ⟨xf, p, t, c, hx⟩ : ∃ xf p t c, ws[i] = (⟨xf, p, t, c⟩ : Chg) := ⟨_, _, _, _, rfl⟩
      have HX : Hid (okC ⟨xf, p, t, c⟩) := hx ▸ HQ.out.oks _ (List.getElem_mem hlt)
      obtain ⟨d0, d1, d2, d3⟩ := wcells HQ.out hlt hx
      have HT : Hid _ := (crL_succ (fa := fateI n fk) (lb := lb) hlt).trans (by rw [hx])
      have zg := HQ.out.vwlt g rfl
      have hBwr : B ≤ wr.heap.size := Nat.le_trans hB HB.out.size
      have H1 : Hid (PD (wr.alloc (.cells #[.int .i64 xf, .int .i64 p, .string t, .bool c] 92)) B D vb' (.slice (some ⟨g, 0, none⟩) ws.length cw) (crL (fateI n fk) ws lb i) ws left count down) := HQ.out.below ((Below.refl _ _).alloc (Nat.le_refl _) _)
      clear hx
      go_wp2_with fail
      refine (cfate a n cap fk i _ (by omega) hn ?hf).mono ?_
      case hf => exact liesI.below HK.out (HB.out.alloc hBwr _)
      rintro e w2 ⟨rfl, rfl⟩
      by_cases hf1 : fateI n fk i = 1
      · have e9 : crS (fateI n fk i) ⟨xf, p, t, c⟩ (crL (fateI n fk) ws lb i) = updF (crL (fateI n fk) ws lb i) (2 * xf + 1) (onL p t c (crL (fateI n fk) ws lb i (2 * xf + 1))) := by unfold crS; rw [if_pos hf1]
        have HT2 : Hid _ := HT.out.trans e9
        rw [hf1]
        clear e9
        go_wp2_with fail
        refine (clast xf p t c HX.out _ B D _ _ _ ws _ _ down H1.out ?hs).mono ?_
        case hs => simp; omega
        rintro e w2 ⟨rfl, ⟨v2, hQ2⟩, hbb⟩
        have HQ2 : Hid (PD w2 B D (updF vb' (2 * xf + 1) v2) (.slice (some ⟨g, 0, none⟩) ws.length cw) (crL (fateI n fk) ws lb (i + 1)) ws left count down) := by
          show PD w2 B D (updF vb' (2 * xf + 1) v2) (.slice (some ⟨g, 0, none⟩) ws.length cw) (crL (fateI n fk) ws lb (i + 1)) ws left count down
          rw [HT2.out]
          exact hQ2
        have HB2 : Hid (BelT tyP B X w2) := (HB.out.alloc hBwr _).trans hbb
        clear hQ2 hbb d0 d1 d2 d3
        go_wp2
        go_roundw
        case rel => exact ⟨i + 1, _, by go_num, by omega, HQ2, HB2⟩
        case measure => simp [intOf]; omega
      · by_cases hf2 : fateI n fk i = 2
        · have e9 : crS (fateI n fk i) ⟨xf, p, t, c⟩ (crL (fateI n fk) ws lb i) = updF (crL (fateI n fk) ws lb i) (2 * xf + 1) (onL p (half t) c (crL (fateI n fk) ws lb i (2 * xf + 1))) := by unfold crS; rw [if_neg hf1, if_pos hf2]
          have HT2 : Hid _ := HT.out.trans e9
          have ht : p + t.size ≤ 67108864 := HX.out.2.1
          have ew : wrap64 ((t.size : Int) / 2) = (t.size : Int) / 2 := by unfold wrap64; omega
          have kh : (t.size : Int) / 2 ≤ (t.size : Int) := by omega
          have kz : (0 : Int) ≤ (t.size : Int) / 2 := by omega
          have eh : t.extract 0 ((t.size : Int) / 2).toNat = half t := by unfold half; rw [show ((t.size : Int) / 2).toNat = t.size / 2 by omega]
          have HX2 : Hid (okC ⟨xf, p, half t, c⟩) := ⟨HX.out.1, by show p + (half t).size ≤ _; rw [half_size]; omega, fun hc => by show (half t).size = 0; rw [half_size, HX.out.2.2 hc]⟩
          have H2 : Hid (PD (wr.alloc (.cells #[.int .i64 xf, .int .i64 p, .string (half t), .bool c] 92)) B D vb' (.slice (some ⟨g, 0, none⟩) ws.length cw) (crL (fateI n fk) ws lb i) ws left count down) := HQ.out.below ((Below.refl _ _).alloc (Nat.le_refl _) _)
          rw [hf2]
          clear e9
          go_wp2_with fail
          refine (clast xf p (half t) c HX2.out _ B D _ _ _ ws _ _ down H2.out ?hs2).mono ?_
          case hs2 => simp; omega
          rintro e w2 ⟨rfl, ⟨v2, hQ2⟩, hbb⟩
          have HQ2 : Hid (PD w2 B D (updF vb' (2 * xf + 1) v2) (.slice (some ⟨g, 0, none⟩) ws.length cw) (crL (fateI n fk) ws lb (i + 1)) ws left count down) := by
            show PD w2 B D (updF vb' (2 * xf + 1) v2) (.slice (some ⟨g, 0, none⟩) ws.length cw) (crL (fateI n fk) ws lb (i + 1)) ws left count down
            rw [HT2.out]
            exact hQ2
          have HB2 : Hid (BelT tyP B X w2) := (HB.out.alloc hBwr _).trans hbb
          clear hQ2 hbb d0 d1 d2 d3
          go_wp2
          go_roundw
          case rel => exact ⟨i + 1, _, by go_num, by omega, HQ2, HB2⟩
          case measure => simp [intOf]; omega
        · have e9 : crS (fateI n fk i) ⟨xf, p, t, c⟩ (crL (fateI n fk) ws lb i) = crL (fateI n fk) ws lb i := by unfold crS; rw [if_neg hf1, if_neg hf2]
          have HQ2 : Hid (PD (wr.alloc (.cells #[.int .i64 xf, .int .i64 p, .string t, .bool c] 92)) B D vb' (.slice (some ⟨g, 0, none⟩) ws.length cw) (crL (fateI n fk) ws lb (i + 1)) ws left count down) := by
            show PD _ B D vb' (.slice (some ⟨g, 0, none⟩) ws.length cw) (crL (fateI n fk) ws lb (i + 1)) ws left count down
            rw [HT.out.trans e9]
            exact H1.out
          clear e9
          go_wp2_with fail
          exact ⟨⟨i + 1, vb', rfl, by omega, HQ2, HB.out.alloc hBwr _⟩, by simp [intOf]; omega⟩
    · obtain rfl : i = ws.length := by omega
      have f4 := HQ.out.unfrozen 4
      have f5 := HQ.out.unfrozen 5
      have f7 := HQ.out.unfrozen 7
      obtain ⟨c0, c1, c2, c3, c4', c5, c6, c7⟩ := HQ.out.cells
      have HF : Hid (PD (((wr.setCell ⟨D, 4, none⟩ (.slice none 0 0)).setCell ⟨D, 5, none⟩ (.int .i64 (-1))).setCell ⟨D, 7, none⟩ (.bool false)) B D vb' (.slice none 0 0) (crL (fateI n fk) ws lb ws.length) [] (-1) count false) := ((PD.setW HQ.out (World.ownsRow_nil wr B 92 4) (Nat.le_refl _) (ws' := []) (fun x hx => by cases hx)).own rfl).own rfl
      have HB2 : Hid (BelT tyP B X (((wr.setCell ⟨D, 4, none⟩ (.slice none 0 0)).setCell ⟨D, 5, none⟩ (.int .i64 (-1))).setCell ⟨D, 7, none⟩ (.bool false))) := ((HB.out.setCell hlow (fun _ => HNF.out) _).setCell hlow (fun _ => HNF.out) _).setCell hlow (fun _ => HNF.out) _
      go_wp2_with fail
      clear f4 f5 f7 c0 c1 c2 c3 c4 c4' c5 c6 c7 HQ
      generalize ((wr.setCell ⟨D, 4, none⟩ (.slice none 0 0)).setCell ⟨D, 5, none⟩ (.int .i64 (-1))).setCell ⟨D, 7, none⟩ (.bool false) = W at *
      go_loopw [49] (fun y w => ∃ (j : Nat) (vc : Nat → Value), y = .int .i64 j ∧ j ≤ 2 ∧ Hid (PD w B D vc (.slice none 0 0) (cpL (crL (fateI n fk) ws lb ws.length) j) [] (-1) count false) ∧ Hid (BelT tyP B X w)) (fun y _ => 2 - (intOf y).toNat)
      case atStart => exact ⟨0, vb', rfl, Nat.zero_le _, HF, HB2⟩
      case round =>
        obtain ⟨j, vc, rfl, hj, HQ, HC⟩ := hrel
        obtain ⟨i0, hi, hz0, hz1, hz2⟩ := info_parts infoB
        rcases (show j = 0 ∨ j = 1 ∨ j = 2 by omega) with rfl | rfl | rfl
        · have HL : Hid (cpL (crL (fateI n fk) ws lb ws.length) 1 = updF (cpL (crL (fateI n fk) ws lb ws.length) 0) 0 (cpL (crL (fateI n fk) ws lb ws.length) 0 1)) := (rfl : cpL (crL (fateI n fk) ws lb ws.length) 1 = updF (cpL (crL (fateI n fk) ws lb ws.length) 0) 0 (cpL (crL (fateI n fk) ws lb ws.length) 0 1))
          generalize cpL (crL (fateI n fk) ws lb ws.length) 0 = L at *
          have c0 := HQ.out.cellk (show 0 < 4 by decide)
          have c1 := HQ.out.cellk (show 1 < 4 by decide)
          have f0 := HQ.out.unfrozen 0
          obtain ⟨a0, p0, e0, q0⟩ := owns_sliceB (HQ.out.rows 0 (by decide))
          obtain ⟨a1, p1, e1, q1⟩ := owns_sliceB (HQ.out.rows 1 (by decide))
          rw [e0] at c0
          rw [e1] at c1
          have E0 : Hid _ := e0
          have hBwr : B ≤ wr.heap.size := Nat.le_trans hB HC.out.size
          have O0 : Hid (wr.ownsRow B 5 1 (.slice a0 0 p0) 0 []) := own_takeN (e0 ▸ HQ.out.rows 0 (by decide)) (Nat.zero_le _)
          by_cases hm : (L 1).length = 0
          · rw [hm] at c1
            have HR : Hid (PD (wr.drew.setCell ⟨D, 0, none⟩ (.slice a0 0 p0)) B D (updF vc 0 (.slice a0 0 p0)) (.slice none 0 0) (cpL (crL (fateI n fk) ws lb ws.length) 1) [] (-1) count false) := by
              show PD (wr.drew.setCell ⟨D, 0, none⟩ (.slice a0 0 p0)) B D (updF vc 0 (.slice a0 0 p0)) (.slice none 0 0) (cpL (crL (fateI n fk) ws lb ws.length) 1) [] (-1) count false
              rw [HL.out]
              exact cp_pack0 (m := 1) HQ.out (show 0 < 4 by decide) e0 O0.out hm
            have HBX : Hid (BelT tyP B X (wr.drew.setCell ⟨D, 0, none⟩ (.slice a0 0 p0))) := (HC.out.trans (BelT.same rfl rfl rfl rfl : BelT tyP B wr wr.drew)).setCell hlow (fun _ => HNF.out) _
            clear e0 e1 E0 O0
            cases a0 <;> cases a1
            all_goals
              go_wp2_with fail
              go_region_law (fail)
              all_goals
                go_wp2
                go_roundw
                case rel => exact ⟨1, _, rfl, by decide, HR, HBX⟩
                case measure => simp [intOf]
          · have O1 := HQ.out.rows 1 (by decide)
            rw [e1] at O1
            obtain ⟨g, cap', ee, _, _⟩ := World.ownsRow.form O1 (by omega)
            injection ee with ee1 ee2 ee3
            subst ee1 ee3
            have HS : Hid _ := lies_row O1
            have hsz := HQ.out.size 1 (by decide)
            clear O1 e0 e1 f0
            go_wp2_with fail
            go_region_law (refine step_append_lies _ rfl (.tmp 62) (.tmp 66) 56 rfl B 5 i0 (.int .u8 0) 1 1 Try.underlying56 hi hz0 hz1 hz2 rfl (by decide) (.slice a0 0 p0) 0 [] ?s1 ?s2 ⟨g, 0, none⟩ (L 1).length p1 (valsB (L 1)) ?s3 ?s4 ?sc ?s5 ?s6 ?s7 ?s8 ?s9 wr.heap.size rfl ?_; (case s1 => go_simp); (case s2 => exact O0.out); (case sc => exact HS.out); (case s3 => go_simp); (case s4 => simp [valsB]); (case s5 => intro u hu; simp [valsB] at hu; obtain ⟨x, _, rfl⟩ := hu; rfl); (case s6 => omega); (case s7 => unfold maxLen; omega); (case s8 => omega); (case s9 => exact hBwr); intro g' cap2 w4 hown2 hgrow2 hat2 hlt4; simp only [Nat.zero_add, List.nil_append] at hown2 ⊢; have HH := cp_pack (m := 1) HQ.out (show 0 < 4 by decide) E0.out hown2 hgrow2 hat2 hsz hBwr; have HR : Hid (PD (w4.setCell ⟨D, 0, none⟩ (.slice (some ⟨g', 0, none⟩) (L 1).length cap2)) B D (updF vc 0 (.slice (some ⟨g', 0, none⟩) (L 1).length cap2)) (.slice none 0 0) (updF L 0 (L 1)) [] (-1) count false) := HH.1; have e4 := HH.2.1; have fz4 := HH.2.2.1; have HBX : Hid (BelT tyP B X w4) := HC.out.trans HH.2.2.2; rw [E0.out] at e4; clear HH hown2 hgrow2 hat2 hlt4)
            all_goals
              have HR2 : Hid (PD (w4.setCell ⟨D, 0, none⟩ (.slice (some ⟨g', 0, none⟩) (L 1).length cap2)) B D (updF vc 0 (.slice (some ⟨g', 0, none⟩) (L 1).length cap2)) (.slice none 0 0) (cpL (crL (fateI n fk) ws lb ws.length) 1) [] (-1) count false) := by
                show PD (w4.setCell ⟨D, 0, none⟩ (.slice (some ⟨g', 0, none⟩) (L 1).length cap2)) B D (updF vc 0 (.slice (some ⟨g', 0, none⟩) (L 1).length cap2)) (.slice none 0 0) (cpL (crL (fateI n fk) ws lb ws.length) 1) [] (-1) count false
                rw [HL.out]
                exact HR.out
              have HBY : Hid (BelT tyP B X (w4.setCell ⟨D, 0, none⟩ (.slice (some ⟨g', 0, none⟩) (L 1).length cap2))) := HBX.out.setCell hlow (fun _ => HNF.out) _
              clear HR e4 fz4
              go_wp2
              go_roundw
              case rel => exact ⟨1, _, rfl, by decide, HR2, HBY⟩
              case measure => simp [intOf]
        · have HL : Hid (cpL (crL (fateI n fk) ws lb ws.length) 2 = updF (cpL (crL (fateI n fk) ws lb ws.length) 1) 2 (cpL (crL (fateI n fk) ws lb ws.length) 1 3)) := (rfl : cpL (crL (fateI n fk) ws lb ws.length) 2 = updF (cpL (crL (fateI n fk) ws lb ws.length) 1) 2 (cpL (crL (fateI n fk) ws lb ws.length) 1 3))
          generalize cpL (crL (fateI n fk) ws lb ws.length) 1 = L at *
          have c0 := HQ.out.cellk (show 2 < 4 by decide)
          have c1 := HQ.out.cellk (show 3 < 4 by decide)
          have f0 := HQ.out.unfrozen 2
          obtain ⟨a0, p0, e0, q0⟩ := owns_sliceB (HQ.out.rows 2 (by decide))
          obtain ⟨a1, p1, e1, q1⟩ := owns_sliceB (HQ.out.rows 3 (by decide))
          rw [e0] at c0
          rw [e1] at c1
          have E0 : Hid _ := e0
          have hBwr : B ≤ wr.heap.size := Nat.le_trans hB HC.out.size
          have O0 : Hid (wr.ownsRow B 5 1 (.slice a0 0 p0) 0 []) := own_takeN (e0 ▸ HQ.out.rows 2 (by decide)) (Nat.zero_le _)
          by_cases hm : (L 3).length = 0
          · rw [hm] at c1
            have HR : Hid (PD (wr.drew.setCell ⟨D, 2, none⟩ (.slice a0 0 p0)) B D (updF vc 2 (.slice a0 0 p0)) (.slice none 0 0) (cpL (crL (fateI n fk) ws lb ws.length) 2) [] (-1) count false) := by
              show PD (wr.drew.setCell ⟨D, 2, none⟩ (.slice a0 0 p0)) B D (updF vc 2 (.slice a0 0 p0)) (.slice none 0 0) (cpL (crL (fateI n fk) ws lb ws.length) 2) [] (-1) count false
              rw [HL.out]
              exact cp_pack0 (m := 1) HQ.out (show 2 < 4 by decide) e0 O0.out hm
            have HBX : Hid (BelT tyP B X (wr.drew.setCell ⟨D, 2, none⟩ (.slice a0 0 p0))) := (HC.out.trans (BelT.same rfl rfl rfl rfl : BelT tyP B wr wr.drew)).setCell hlow (fun _ => HNF.out) _
            clear e0 e1 E0 O0
            cases a0 <;> cases a1
            all_goals
              go_wp2_with fail
              go_region_law (fail)
              all_goals
                go_wp2
                go_roundw
                case rel => exact ⟨2, _, rfl, by decide, HR, HBX⟩
                case measure => simp [intOf]
          · have O1 := HQ.out.rows 3 (by decide)
            rw [e1] at O1
            obtain ⟨g, cap', ee, _, _⟩ := World.ownsRow.form O1 (by omega)
            injection ee with ee1 ee2 ee3
            subst ee1 ee3
            have HS : Hid _ := lies_row O1
            have hsz := HQ.out.size 3 (by decide)
            clear O1 e0 e1 f0
            go_wp2_with fail
            go_region_law (refine step_append_lies _ rfl (.tmp 62) (.tmp 66) 56 rfl B 5 i0 (.int .u8 0) 1 1 Try.underlying56 hi hz0 hz1 hz2 rfl (by decide) (.slice a0 0 p0) 0 [] ?s1 ?s2 ⟨g, 0, none⟩ (L 3).length p1 (valsB (L 3)) ?s3 ?s4 ?sc ?s5 ?s6 ?s7 ?s8 ?s9 wr.heap.size rfl ?_; (case s1 => go_simp); (case s2 => exact O0.out); (case sc => exact HS.out); (case s3 => go_simp); (case s4 => simp [valsB]); (case s5 => intro u hu; simp [valsB] at hu; obtain ⟨x, _, rfl⟩ := hu; rfl); (case s6 => omega); (case s7 => unfold maxLen; omega); (case s8 => omega); (case s9 => exact hBwr); intro g' cap2 w4 hown2 hgrow2 hat2 hlt4; simp only [Nat.zero_add, List.nil_append] at hown2 ⊢; have HH := cp_pack (m := 1) HQ.out (show 2 < 4 by decide) E0.out hown2 hgrow2 hat2 hsz hBwr; have HR : Hid (PD (w4.setCell ⟨D, 2, none⟩ (.slice (some ⟨g', 0, none⟩) (L 3).length cap2)) B D (updF vc 2 (.slice (some ⟨g', 0, none⟩) (L 3).length cap2)) (.slice none 0 0) (updF L 2 (L 3)) [] (-1) count false) := HH.1; have e4 := HH.2.1; have fz4 := HH.2.2.1; have HBX : Hid (BelT tyP B X w4) := HC.out.trans HH.2.2.2; rw [E0.out] at e4; clear HH hown2 hgrow2 hat2 hlt4)
            all_goals
              have HR2 : Hid (PD (w4.setCell ⟨D, 2, none⟩ (.slice (some ⟨g', 0, none⟩) (L 3).length cap2)) B D (updF vc 2 (.slice (some ⟨g', 0, none⟩) (L 3).length cap2)) (.slice none 0 0) (cpL (crL (fateI n fk) ws lb ws.length) 2) [] (-1) count false) := by
                show PD (w4.setCell ⟨D, 2, none⟩ (.slice (some ⟨g', 0, none⟩) (L 3).length cap2)) B D (updF vc 2 (.slice (some ⟨g', 0, none⟩) (L 3).length cap2)) (.slice none 0 0) (cpL (crL (fateI n fk) ws lb ws.length) 2) [] (-1) count false
                rw [HL.out]
                exact HR.out
              have HBY : Hid (BelT tyP B X (w4.setCell ⟨D, 2, none⟩ (.slice (some ⟨g', 0, none⟩) (L 3).length cap2))) := HBX.out.setCell hlow (fun _ => HNF.out) _
              clear HR e4 fz4
              go_wp2
              go_roundw
              case rel => exact ⟨2, _, rfl, by decide, HR2, HBY⟩
              case measure => simp [intOf]
        · go_wp2_with fail
          go_end0
          exact ⟨rfl, ⟨vc, HQ.out⟩, HC.out⟩
end Go.Proofs.Ytfjkockcgddgbaa
