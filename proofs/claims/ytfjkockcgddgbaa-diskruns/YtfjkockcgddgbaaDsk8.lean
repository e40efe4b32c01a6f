/- package disk: Sync -/
import Derived.Test.YtfjkockcgddgbaaDsk7
namespace Go.Proofs.Ytfjkockcgddgbaa
open Go.RowKit Go.Lib
attribute [local go_sem ↓] Go.wp_at_zero Go.wp_at_succ
theorem updF_same {α : Type} (f : Nat → α) (k : Nat) : updF f k (f k) = f := by
  funext i
  unfold updF
  split
  · rename_i h; rw [h]
  · rfl
theorem updF_two {α : Type} (f : Nat → α) (k : Nat) (v u : α) : updF (updF f k v) k u = updF f k u := by
  funext i
  unfold updF
  split <;> rfl
theorem take_snoc {α : Type} {l : List α} {i : Nat} (h : i < l.length) : l.take (i + 1) = l.take i ++ [l[i]] := by
  rw [List.take_add_one, List.getElem?_eq_getElem h]; rfl
theorem othF_ok {f : Nat} {ws : List Chg} (h : ∀ x ∈ ws, okC x) : ∀ x ∈ othF f ws, okC x := fun x hx => h x (List.mem_filter.1 hx).1
theorem wcells {X : World} {B D : Nat} {vb : Nat → Value} {lb : Nat → List UInt8} {ws : List Chg} {left count : Int} {down : Bool} {g cap i : Nat} (h : PD X B D vb (.slice (some ⟨g, 0, none⟩) ws.length cap) lb ws left count down) (hi : i < ws.length) {xf p : Nat} {t : ByteArray} {c : Bool} (hx : ws[i] = ⟨xf, p, t, c⟩) :
    X.cell? ⟨g, i * 4, none⟩ = some (.int .i64 xf) ∧ X.cell? ⟨g, i * 4 + 1, none⟩ = some (.int .i64 p) ∧ X.cell? ⟨g, i * 4 + 2, none⟩ = some (.string t) ∧ X.cell? ⟨g, i * 4 + 3, none⟩ = some (.bool c) := by
  have k : ∀ j, j < 4 → X.cell? ⟨g, i * 4 + j, none⟩ = (chgCells ⟨xf, p, t, c⟩)[j]? := fun j hj => by
    rw [h.wrow.cellAt (i * 4 + j) (by omega), chgs_get hi hj, hx]
  exact ⟨k 0 (by decide), k 1 (by decide), k 2 (by decide), k 3 (by decide)⟩
theorem below_appC {w X Y : World} {B B0 : Nat} {v : Value} {n : Nat} {xs : List Value} (h : BelT tyP B w X) (ho : X.ownsRow B0 92 4 v n xs) (hB : B ≤ B0) (hX : B ≤ X.heap.size) (hg : X.grownBy Y v.ownBlock) : BelT tyP B w Y :=
  h.trans (BelT.row hg hX (fun b e => ⟨Nat.le_trans hB (row_nf (T := tyP) (by decide) ho b e).1, (row_nf (by decide) ho b e).2⟩))
/- what Sync answers, and makes of the disk -/
def synPost (f : Int) (X : World) (B D : Nat) (vb : Nat → Value) (vw : Value) (lb : Nat → List UInt8) (ws : List Chg) (left count : Int) (down : Bool) (e : Ending) (w' : World) : Prop :=
  (¬ askE f 0 0 down = 0 ∧ e = .returned (.int .i64 (askE f 0 0 down)) ∧ w' = X) ∨
  (askE f 0 0 down = 0 ∧ left = 0 ∧ e = .returned (.int .i64 2) ∧ PD w' B D vb vw lb ws left count true ∧ BelT tyP B X w') ∨
  (askE f 0 0 down = 0 ∧ ¬ left = 0 ∧ e = .returned (.int .i64 0) ∧ (∃ (f' : Nat) (v' vw' : Value), f = f' ∧ f' < 2 ∧ PD w' B D (updF vb (2 * f' + 1) v') vw' (updF lb (2 * f' + 1) (foldF f' ws (lb (2 * f' + 1)))) (othF f' ws) (decL left) (count + 1) down) ∧ BelT tyP B X w')
set_option maxRecDepth 20000 in
set_option maxHeartbeats 1000000 in
theorem csync (f : Int) (X : World) (B D : Nat) (vb : Nat → Value) (vw : Value) (lb : Nat → List UInt8) (ws : List Chg) (left count : Int) (down : Bool) (h : PD X B D vb vw lb ws left count down) (hB : B ≤ X.heap.size) (hl : -9223372036854775808 ≤ left ∧ left ≤ 9223372036854775807) (hc : 0 ≤ count ∧ count ≤ 4611686018427387904) (hw : ws.length ≤ 1000000) :
    Calls Try.prog 33 #[(.pointer (some ⟨D, 0, none⟩)), .int .i64 f] X (synPost f X B D vb vw lb ws left count down) := by
  have H : Hid (PD X B D vb vw lb ws left count down) := h
  obtain ⟨i0, hi, hz0, hz1, hz2⟩ := info_parts infoC
  have hlow := h.low
  obtain ⟨aw, cw, rfl⟩ := owns_sliceC h.wrow
  clear h
  go_enter Try.func33, Try.ntmps33
  go_wp2_with fail
  refine (cbegin f 0 0 X B D vb _ lb ws left count down H.out hl hc).mono ?_
  rintro e w1 h
  rcases h with ⟨ha, rfl, rfl⟩ | ⟨ha, h0, rfl, hP, hb⟩ | ⟨ha, h0, rfl, hP, hb⟩
  · have HA : Hid _ := ha
    go_wp2_with fail
    go_ret
    exact .inl ⟨HA.out, rfl, rfl⟩
  · have HA : Hid _ := ha
    have HP : Hid _ := hP
    have HBB : Hid _ := but_below hb hB hlow H.out.nf
    clear ha hP hb
    go_wp2_with fail
    go_ret
    exact .inr (.inl ⟨HA.out, h0, rfl, HP.out, HBB.out⟩)
  · have HA : Hid _ := ha
    have HP : Hid (PD w1 B D vb (.slice aw ws.length cw) lb ws (decL left) (count + 1) down) := hP
    have hBB := but_below hb hB hlow H.out.nf
    have hB1 : B ≤ w1.heap.size := Nat.le_trans hB hBB.size
    have HBB : Hid _ := hBB
    have HV : Hid _ := HP.out.vwlt
    obtain ⟨f', p', rfl, -, hf, -⟩ := ask_fits ha
    have c4 := HP.out.cells.2.2.2.2.1
    clear ha hP hb hBB
    rcases (show f' = 0 ∨ f' = 1 by omega) with rfl | rfl
    · go_wp2_with fail
      go_loopw [6, 20] (fun v y X => ∃ (i : Nat) (v' : Value), y = .int .i64 i ∧ i ≤ ws.length ∧ Hid (X.ownsRow w1.heap.size 92 4 v (othF 0 (ws.take i)).length (chgsCells (othF 0 (ws.take i)))) ∧ Hid (PD X B D (updF vb 1 v') (.slice aw ws.length cw) (updF lb 1 (foldF 0 (ws.take i) (lb 1))) ws (decL left) (count + 1) down) ∧ Hid (BelT tyP B w1 X)) (fun _ y _ => ws.length - (intOf y).toNat)
      case atStart => exact ⟨0, vb 1, rfl, Nat.zero_le _, World.ownsRow_nil _ _ _ _, (by show PD w1 B D (updF vb 1 (vb 1)) _ (updF lb 1 (lb 1)) ws _ _ down; rw [updF_same, updF_same]; exact HP.out), BelT.refl _ _ _⟩
      case round =>
        obtain ⟨i, v', rfl, hin, HO, HQ, HB⟩ := hrel
        by_cases hlt : i < ws.length
        · have ki : (0 : Int) ≤ (i : Int) := by omega
          have kn : (i : Int) < (ws.length : Int) := by omega
          obtain ⟨g, cap', ee, _, _⟩ := World.ownsRow.form HQ.out.wrow (by omega)
          injection ee with ee1 ee2 ee3
          subst ee1 ee3
          obtain ⟨xf, p, t, c, hx⟩ : ∃ xf p t c, ws[i] = (⟨xf, p, t, c⟩ : Chg) := ⟨_, _, _, _, rfl⟩
          obtain ⟨k1, k2, k3⟩ : okC ⟨xf, p, t, c⟩ := hx ▸ HQ.out.oks _ (List.getElem_mem hlt)
          have HK3 : Hid _ := k3
          obtain ⟨d0, d1, d2, d3⟩ := wcells HQ.out hlt hx
          have hTk : ws.take (i + 1) = ws.take i ++ [⟨xf, p, t, c⟩] := by rw [take_snoc hlt, hx]
          have HT : Hid _ := hTk
          have zb := HB.out.size
          have zg := HQ.out.vwlt g rfl
          have hole := othF_le 0 (ws.take i)
          rw [List.length_take] at hole
          clear hTk k3 hx
          have H1 : Hid (PD (wr.alloc (.cells #[.int .i64 xf, .int .i64 p, .string t, .bool c] 92)) B D (updF vb 1 v') (.slice (some ⟨g, 0, none⟩) ws.length cw) (updF lb 1 (foldF 0 (ws.take i) (lb 1))) ws (decL left) (count + 1) down) := HQ.out.below ((Below.refl _ _).alloc (Nat.le_refl _) _)
          have hBwr : B ≤ wr.heap.size := Nat.le_trans hB1 zb
          by_cases hxf : xf = 0
          · subst hxf
            go_wp2_with fail
            refine (clast0 p t c k2 HK3.out _ B D _ _ _ ws _ _ down H1.out ?hs).mono ?_
            case hs => simp; omega
            rintro e w2 ⟨rfl, ⟨v2, hQ2⟩, hbb, hb2⟩
            have HQ2 : Hid (PD w2 B D (updF vb 1 v2) (.slice (some ⟨g, 0, none⟩) ws.length cw) (updF lb 1 (foldF 0 (ws.take (i + 1)) (lb 1))) ws (decL left) (count + 1) down) := by
              show PD w2 B D (updF vb 1 v2) (.slice (some ⟨g, 0, none⟩) ws.length cw) (updF lb 1 (foldF 0 (ws.take (i + 1)) (lb 1))) ws (decL left) (count + 1) down
              rw [HT.out, foldF_snoc, if_pos rfl]
              rw [updF_two, updF_two, updF_at] at hQ2
              exact hQ2
            have HO2 : Hid (w2.ownsRow w1.heap.size 92 4 u6 (othF 0 (ws.take (i + 1))).length (chgsCells (othF 0 (ws.take (i + 1))))) := by
              show w2.ownsRow w1.heap.size 92 4 u6 (othF 0 (ws.take (i + 1))).length (chgsCells (othF 0 (ws.take (i + 1))))
              rw [HT.out, othF_snoc, if_pos rfl]
              exact row_kept2 H1.out (show 1 < 4 by decide) (World.ownsRow.alloc HO.out _) hb2
            have HB2 : Hid (BelT tyP B w1 w2) := (HB.out.alloc hBwr _).trans hbb
            clear hQ2 hbb hb2 d0 d1 d2 d3
            go_wp2
            go_roundw
            case rel => exact ⟨i + 1, v2, by go_num, by omega, HO2, HQ2, HB2⟩
            case measure => simp [intOf]; omega
          · have hxf' : ¬ (xf : Int) = 0 := by omega
            have HOa : Hid ((wr.alloc (.cells #[.int .i64 xf, .int .i64 p, .string t, .bool c] 92)).ownsRow w1.heap.size 92 4 u6 (othF 0 (ws.take i)).length (chgsCells (othF 0 (ws.take i)))) := World.ownsRow.alloc HO.out _
            have hn1 := newsC (wr.alloc (.cells #[.int .i64 xf, .int .i64 p, .string t, .bool c] 92)) xf p t c
            have HN : Hid _ := hn1
            clear hn1
            go_wp2_with (at_builtin; go_must (refine wpList_append_lies _ rfl _ _ _ rfl w1.heap.size 92 i0 (.agg #[.int .i64 0, .int .i64 0, .string ⟨#[]⟩, .bool false]) 4 40 Try.underlying60 hi hz0 hz1 hz2 rfl (by decide) _ (othF 0 (ws.take i)).length (chgsCells (othF 0 (ws.take i))) rfl (World.ownsRow.alloc HOa.out _) ⟨wr.heap.size + 1, 0, none⟩ 1 1 [.int .i64 xf, .int .i64 p, .string t, .bool c] rfl rfl ?n0 ?r00 (by decide) ?r10 ?r20 ?r30 (wr.heap.size + 2) (by simp) ?_))
            case r00 => simp [Value.oneCell']
            case r10 => unfold maxLen; omega
            case r20 => omega
            case r30 => first | omega | (simp; omega)
            intro g' cap2 w4 hown2 hgrow2 hat2 hlt4
            have HB4 : Hid (BelT tyP B w1 w4) := below_appC ((HB.out.alloc hBwr _).alloc (by simp; omega) _) (World.ownsRow.alloc HOa.out _) hB1 (by simp; omega) hgrow2
            have HQ4 : Hid (PD w4 B D (updF vb 1 v') (.slice (some ⟨g, 0, none⟩) ws.length cw) (updF lb 1 (foldF 0 (ws.take (i + 1)) (lb 1))) ws (decL left) (count + 1) down) := by
              show PD w4 B D (updF vb 1 v') (.slice (some ⟨g, 0, none⟩) ws.length cw) (updF lb 1 (foldF 0 (ws.take (i + 1)) (lb 1))) ws (decL left) (count + 1) down
              rw [HT.out, foldF_snoc, if_neg hxf]
              exact PD.keptC (H1.out.below ((Below.refl _ _).alloc (Nat.le_refl _) _)) (World.ownsRow.alloc HOa.out _) HV.out hgrow2
            have HO4 : Hid (w4.ownsRow w1.heap.size 92 4 (.slice (some ⟨g', 0, none⟩) ((othF 0 (ws.take i)).length + 1) cap2) (othF 0 (ws.take (i + 1))).length (chgsCells (othF 0 (ws.take (i + 1))))) := by
              show w4.ownsRow w1.heap.size 92 4 (.slice (some ⟨g', 0, none⟩) ((othF 0 (ws.take i)).length + 1) cap2) (othF 0 (ws.take (i + 1))).length (chgsCells (othF 0 (ws.take (i + 1))))
              rw [HT.out, othF_snoc, if_neg hxf, List.length_append, chgs_snoc]
              exact hown2
            clear hown2 hgrow2 hat2 hlt4 d0 d1 d2 d3
            go_wp2
            go_roundw
            case rel => exact ⟨i + 1, v', by go_num, by omega, HO4, HQ4, HB4⟩
            case measure => simp [intOf]; omega
        · obtain rfl : i = ws.length := by omega
          rw [List.take_length] at HO HQ
          obtain ⟨a6, c6, rfl⟩ := owns_sliceC HO.out
          have p4 := HQ.out.cells.2.2.2.2.1
          have f4 := HQ.out.unfrozen 4
          have HF : Hid _ := PD.setW HQ.out HO.out hB1 (othF_ok HQ.out.oks)
          go_wp2_with fail
          go_ret
          exact .inr (.inr ⟨HA.out, h0, rfl, ⟨0, v', _, rfl, by decide, HF.out⟩, HBB.out.trans (HB.out.setCell hlow (fun _ => HP.out.nf) _)⟩)
    · go_wp2_with fail
      go_loopw [6, 20] (fun v y X => ∃ (i : Nat) (v' : Value), y = .int .i64 i ∧ i ≤ ws.length ∧ Hid (X.ownsRow w1.heap.size 92 4 v (othF 1 (ws.take i)).length (chgsCells (othF 1 (ws.take i)))) ∧ Hid (PD X B D (updF vb 3 v') (.slice aw ws.length cw) (updF lb 3 (foldF 1 (ws.take i) (lb 3))) ws (decL left) (count + 1) down) ∧ Hid (BelT tyP B w1 X)) (fun _ y _ => ws.length - (intOf y).toNat)
      case atStart => exact ⟨0, vb 3, rfl, Nat.zero_le _, World.ownsRow_nil _ _ _ _, (by show PD w1 B D (updF vb 3 (vb 3)) _ (updF lb 3 (lb 3)) ws _ _ down; rw [updF_same, updF_same]; exact HP.out), BelT.refl _ _ _⟩
      case round =>
        obtain ⟨i, v', rfl, hin, HO, HQ, HB⟩ := hrel
        by_cases hlt : i < ws.length
        · have ki : (0 : Int) ≤ (i : Int) := by omega
          have kn : (i : Int) < (ws.length : Int) := by omega
          obtain ⟨g, cap', ee, _, _⟩ := World.ownsRow.form HQ.out.wrow (by omega)
          injection ee with ee1 ee2 ee3
          subst ee1 ee3
          obtain ⟨xf, p, t, c, hx⟩ : ∃ xf p t c, ws[i] = (⟨xf, p, t, c⟩ : Chg) := ⟨_, _, _, _, rfl⟩
          obtain ⟨k1, k2, k3⟩ : okC ⟨xf, p, t, c⟩ := hx ▸ HQ.out.oks _ (List.getElem_mem hlt)
          have HK3 : Hid _ := k3
          obtain ⟨d0, d1, d2, d3⟩ := wcells HQ.out hlt hx
          have hTk : ws.take (i + 1) = ws.take i ++ [⟨xf, p, t, c⟩] := by rw [take_snoc hlt, hx]
          have HT : Hid _ := hTk
          have zb := HB.out.size
          have zg := HQ.out.vwlt g rfl
          have hole := othF_le 1 (ws.take i)
          rw [List.length_take] at hole
          clear hTk k3 hx
          have H1 : Hid (PD (wr.alloc (.cells #[.int .i64 xf, .int .i64 p, .string t, .bool c] 92)) B D (updF vb 3 v') (.slice (some ⟨g, 0, none⟩) ws.length cw) (updF lb 3 (foldF 1 (ws.take i) (lb 3))) ws (decL left) (count + 1) down) := HQ.out.below ((Below.refl _ _).alloc (Nat.le_refl _) _)
          have hBwr : B ≤ wr.heap.size := Nat.le_trans hB1 zb
          by_cases hxf : xf = 1
          · subst hxf
            go_wp2_with fail
            refine (clast1 p t c k2 HK3.out _ B D _ _ _ ws _ _ down H1.out ?hs).mono ?_
            case hs => simp; omega
            rintro e w2 ⟨rfl, ⟨v2, hQ2⟩, hbb, hb2⟩
            have HQ2 : Hid (PD w2 B D (updF vb 3 v2) (.slice (some ⟨g, 0, none⟩) ws.length cw) (updF lb 3 (foldF 1 (ws.take (i + 1)) (lb 3))) ws (decL left) (count + 1) down) := by
              show PD w2 B D (updF vb 3 v2) (.slice (some ⟨g, 0, none⟩) ws.length cw) (updF lb 3 (foldF 1 (ws.take (i + 1)) (lb 3))) ws (decL left) (count + 1) down
              rw [HT.out, foldF_snoc, if_pos rfl]
              rw [updF_two, updF_two, updF_at] at hQ2
              exact hQ2
            have HO2 : Hid (w2.ownsRow w1.heap.size 92 4 u6 (othF 1 (ws.take (i + 1))).length (chgsCells (othF 1 (ws.take (i + 1))))) := by
              show w2.ownsRow w1.heap.size 92 4 u6 (othF 1 (ws.take (i + 1))).length (chgsCells (othF 1 (ws.take (i + 1))))
              rw [HT.out, othF_snoc, if_pos rfl]
              exact row_kept2 H1.out (show 3 < 4 by decide) (World.ownsRow.alloc HO.out _) hb2
            have HB2 : Hid (BelT tyP B w1 w2) := (HB.out.alloc hBwr _).trans hbb
            clear hQ2 hbb hb2 d0 d1 d2 d3
            go_wp2
            go_roundw
            case rel => exact ⟨i + 1, v2, by go_num, by omega, HO2, HQ2, HB2⟩
            case measure => simp [intOf]; omega
          · have hxf' : ¬ (xf : Int) = 1 := by omega
            have HOa : Hid ((wr.alloc (.cells #[.int .i64 xf, .int .i64 p, .string t, .bool c] 92)).ownsRow w1.heap.size 92 4 u6 (othF 1 (ws.take i)).length (chgsCells (othF 1 (ws.take i)))) := World.ownsRow.alloc HO.out _
            have hn1 := newsC (wr.alloc (.cells #[.int .i64 xf, .int .i64 p, .string t, .bool c] 92)) xf p t c
            have HN : Hid _ := hn1
            clear hn1
            go_wp2_with (at_builtin; go_must (refine wpList_append_lies _ rfl _ _ _ rfl w1.heap.size 92 i0 (.agg #[.int .i64 0, .int .i64 0, .string ⟨#[]⟩, .bool false]) 4 40 Try.underlying60 hi hz0 hz1 hz2 rfl (by decide) _ (othF 1 (ws.take i)).length (chgsCells (othF 1 (ws.take i))) rfl (World.ownsRow.alloc HOa.out _) ⟨wr.heap.size + 1, 0, none⟩ 1 1 [.int .i64 xf, .int .i64 p, .string t, .bool c] rfl rfl ?n1 ?r01 (by decide) ?r11 ?r21 ?r31 (wr.heap.size + 2) (by simp) ?_))
            case r01 => simp [Value.oneCell']
            case r11 => unfold maxLen; omega
            case r21 => omega
            case r31 => first | omega | (simp; omega)
            intro g' cap2 w4 hown2 hgrow2 hat2 hlt4
            have HB4 : Hid (BelT tyP B w1 w4) := below_appC ((HB.out.alloc hBwr _).alloc (by simp; omega) _) (World.ownsRow.alloc HOa.out _) hB1 (by simp; omega) hgrow2
            have HQ4 : Hid (PD w4 B D (updF vb 3 v') (.slice (some ⟨g, 0, none⟩) ws.length cw) (updF lb 3 (foldF 1 (ws.take (i + 1)) (lb 3))) ws (decL left) (count + 1) down) := by
              show PD w4 B D (updF vb 3 v') (.slice (some ⟨g, 0, none⟩) ws.length cw) (updF lb 3 (foldF 1 (ws.take (i + 1)) (lb 3))) ws (decL left) (count + 1) down
              rw [HT.out, foldF_snoc, if_neg hxf]
              exact PD.keptC (H1.out.below ((Below.refl _ _).alloc (Nat.le_refl _) _)) (World.ownsRow.alloc HOa.out _) HV.out hgrow2
            have HO4 : Hid (w4.ownsRow w1.heap.size 92 4 (.slice (some ⟨g', 0, none⟩) ((othF 1 (ws.take i)).length + 1) cap2) (othF 1 (ws.take (i + 1))).length (chgsCells (othF 1 (ws.take (i + 1))))) := by
              show w4.ownsRow w1.heap.size 92 4 (.slice (some ⟨g', 0, none⟩) ((othF 1 (ws.take i)).length + 1) cap2) (othF 1 (ws.take (i + 1))).length (chgsCells (othF 1 (ws.take (i + 1))))
              rw [HT.out, othF_snoc, if_neg hxf, List.length_append, chgs_snoc]
              exact hown2
            clear hown2 hgrow2 hat2 hlt4 d0 d1 d2 d3
            go_wp2
            go_roundw
            case rel => exact ⟨i + 1, v', by go_num, by omega, HO4, HQ4, HB4⟩
            case measure => simp [intOf]; omega
        · obtain rfl : i = ws.length := by omega
          rw [List.take_length] at HO HQ
          obtain ⟨a6, c6, rfl⟩ := owns_sliceC HO.out
          have p4 := HQ.out.cells.2.2.2.2.1
          have f4 := HQ.out.unfrozen 4
          have HF : Hid _ := PD.setW HQ.out HO.out hB1 (othF_ok HQ.out.oks)
          go_wp2_with fail
          go_ret
          exact .inr (.inr ⟨HA.out, h0, rfl, ⟨1, v', _, rfl, by decide, HF.out⟩, HBB.out.trans (HB.out.setCell hlow (fun _ => HP.out.nf) _)⟩)
end Go.Proofs.Ytfjkockcgddgbaa
