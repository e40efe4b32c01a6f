/- relstoreref's disk: what it is in memory; Seen -/
import Derived.Test.YtfjkockcgddgbaaDskR
namespace Go.Proofs.Ytfjkockcgddgbaa
open Go.RowKit Go.Lib
attribute [local go_sem ↓] Go.wp_at_zero Go.wp_at_succ
structure RD (X : World) (B D : Nat) (l0 l1 : ByteArray) (vw : Value) (ws : List Chg) (left count : Int) (down : Bool) : Prop where
  blk : X.heap[D]? = some (.cells #[.string l0, .string l1, vw, .int .i64 left, .bool down, .int .i64 count] 66 (0, 0))
  low : B ≤ D
  wrow : X.ownsRow B 102 4 vw ws.length (chgsCells ws)
  s0 : l0.size ≤ 67108864
  s1 : l1.size ≤ 67108864
  oks : ∀ x ∈ ws, okC x
theorem RD.lt {X : World} {B D : Nat} {l0 l1 : ByteArray} {vw : Value} {ws : List Chg} {left count : Int} {down : Bool} (h : RD X B D l0 l1 vw ws left count down) : D < X.heap.size := (Array.getElem?_eq_some_iff.1 h.blk).1
theorem RD.below {X Y : World} {B D : Nat} {l0 l1 : ByteArray} {vw : Value} {ws : List Chg} {left count : Int} {down : Bool} (h : RD X B D l0 l1 vw ws left count down) (hb : Below X.heap.size X Y) : RD Y B D l0 l1 vw ws left count down :=
  ⟨(hb.block D h.lt).trans h.blk, h.low, row_below h.wrow hb, h.s0, h.s1, h.oks⟩
theorem RD.cells {X : World} {B D : Nat} {l0 l1 : ByteArray} {vw : Value} {ws : List Chg} {left count : Int} {down : Bool} (h : RD X B D l0 l1 vw ws left count down) :
    X.cell? ⟨D, 0, none⟩ = some (.string l0) ∧ X.cell? ⟨D, 1, none⟩ = some (.string l1) ∧ X.cell? ⟨D, 2, none⟩ = some vw ∧ X.cell? ⟨D, 3, none⟩ = some (.int .i64 left) ∧ X.cell? ⟨D, 4, none⟩ = some (.bool down) ∧ X.cell? ⟨D, 5, none⟩ = some (.int .i64 count) := by
  refine ⟨?_, ?_, ?_, ?_, ?_, ?_⟩ <;> simp [World.cell?, h.blk]
theorem owns_sliceA {W : World} {base n : Nat} {v : Value} {xs : List Value} (h : W.ownsRow base 102 4 v n xs) : ∃ a cap, v = .slice a n cap := by
  rcases h.2 with ⟨rfl, h2⟩ | ⟨g, cap, cur, rfl, _⟩
  · exact ⟨none, 0, by rw [h2]⟩
  · exact ⟨_, cap, rfl⟩
theorem racells {X : World} {B D : Nat} {l0 l1 : ByteArray} {ws : List Chg} {left count : Int} {down : Bool} {g cap i : Nat} (h : RD X B D l0 l1 (.slice (some ⟨g, 0, none⟩) ws.length cap) ws left count down) (hi : i < ws.length) {xf p : Nat} {t : ByteArray} {c : Bool} (hx : ws[i] = ⟨xf, p, t, c⟩) :
    X.cell? ⟨g, i * 4, none⟩ = some (.int .i64 xf) ∧ X.cell? ⟨g, i * 4 + 1, none⟩ = some (.int .i64 p) ∧ X.cell? ⟨g, i * 4 + 2, none⟩ = some (.string t) ∧ X.cell? ⟨g, i * 4 + 3, none⟩ = some (.bool c) := by
  have k : ∀ j, j < 4 → X.cell? ⟨g, i * 4 + j, none⟩ = (chgCells ⟨xf, p, t, c⟩)[j]? := fun j hj => by
    rw [h.wrow.cellAt (i * 4 + j) (by omega), chgs_get hi hj, hx]
  exact ⟨k 0 (by decide), k 1 (by decide), k 2 (by decide), k 3 (by decide)⟩
theorem foldF_len {f : Nat} : ∀ {ws : List Chg} {l : List UInt8}, (∀ x ∈ ws, okC x) → l.length ≤ 67108864 → (foldF f ws l).length ≤ 67108864
  | [], _, _, h => h
  | x :: ws, l, ho, h => by
    show (foldF f ws (if x.f = f then onL x.p x.t x.c l else l)).length ≤ _
    refine foldF_len (fun y hy => ho y (List.mem_cons_of_mem _ hy)) ?_
    have h1 := (ho x (List.mem_cons_self ..)).2.1
    split
    · rw [onL_len]; split <;> omega
    · exact h
theorem mk_ll {y : ByteArray} {l : List UInt8} (h : ll y = l) : (⟨l.toArray⟩ : ByteArray) = y := ll_inj h.symm
set_option maxRecDepth 20000 in
set_option maxHeartbeats 1000000 in
theorem rseen0 (X : World) (B D : Nat) (l0 l1 : ByteArray) (vw : Value) (ws : List Chg) (left count : Int) (down : Bool) (h : RD X B D l0 l1 vw ws left count down) (hw : ws.length ≤ 1000000) :
    Calls Try.prog 40 #[(.pointer (some ⟨D, 0, none⟩)), .int .i64 0] X fun e w' => e = .returned (.string ⟨(foldF 0 ws (ll l0)).toArray⟩) ∧ Below X.heap.size X w' := by
  have H : Hid (RD X B D l0 l1 vw ws left count down) := h
  obtain ⟨aw, cw, rfl⟩ := owns_sliceA h.wrow
  obtain ⟨c0, c1, c2, -⟩ := h.cells
  have hsF := h.s0
  have hoks : Hid _ := h.oks
  clear h
  go_enter Try.func40, Try.ntmps40
  go_wp2_with fail
  go_loopw [5, 19] (fun v u w => ∃ (i : Nat) (y : ByteArray), u = .int .i64 i ∧ v = .string y ∧ i ≤ ws.length ∧ Hid (ll y = foldF 0 (ws.take i) (ll l0)) ∧ Hid (Below X.heap.size X w)) (fun _ u _ => ws.length - (intOf u).toNat)
  case atStart => exact ⟨0, l0, rfl, rfl, Nat.zero_le _, (rfl : ll l0 = foldF 0 [] (ll l0)), Below.refl _ _⟩
  case round =>
    obtain ⟨i, y, rfl, rfl, hin, HY, HB⟩ := hrel
    by_cases hlt : i < ws.length
    · have ki : (0 : Int) ≤ (i : Int) := by omega
      have kn : (i : Int) < (ws.length : Int) := by omega
      have HQ : Hid _ := H.out.below HB.out
      obtain ⟨g, cap', ee, _, _⟩ := World.ownsRow.form HQ.out.wrow (by omega)
      injection ee with ee1 ee2 ee3
      subst ee1 ee3
      obtain ⟨xf, p, t, c, hx⟩ : ∃ xf p t c, ws[i] = (⟨xf, p, t, c⟩ : Chg) := ⟨_, _, _, _, rfl⟩
      obtain ⟨k1, k2, k3⟩ : okC ⟨xf, p, t, c⟩ := hx ▸ hoks.out _ (List.getElem_mem hlt)
      have HK3 : Hid _ := k3
      have k2 : p + t.size ≤ 67108864 := k2
      obtain ⟨d0, d1, d2, d3⟩ := racells HQ.out hlt hx
      have HT : Hid _ := (take_snoc hlt).trans (by rw [hx])
      have zb := HB.out.size
      have zg := (World.ownsRow.lt HQ.out.wrow g rfl).2
      have hys : y.size ≤ 67108864 := by
        rw [← ll_len, HY.out]
        exact foldF_len (fun x hx => hoks.out x (List.mem_of_mem_take hx)) (by rw [ll_len]; exact hsF)
      clear k3 hx
      by_cases hxf : xf = 0
      · subst hxf
        go_wp2_with fail
        refine (ron 0 p t c y _ k2 HK3.out hys).mono ?_
        rintro e w2 ⟨rfl, hb⟩
        have HY2 : Hid (ll ⟨(onL p t c (ll y)).toArray⟩ = foldF 0 (ws.take (i + 1)) (ll l0)) := by
          show onL p t c (ll y) = foldF 0 (ws.take (i + 1)) (ll l0)
          rw [HT.out, foldF_snoc, if_pos rfl, HY.out]
        have HB2 : Hid (Below X.heap.size X w2) := (HB.out.alloc zb _).trans (hb.mono (by simp; omega))
        clear hb d0 d1 d2 d3
        generalize (⟨(onL p t c (ll y)).toArray⟩ : ByteArray) = y2 at *
        go_wp2
        go_roundw
        case rel => exact ⟨i + 1, y2, by go_num, rfl, by omega, HY2, HB2⟩
        case measure => simp [intOf]; omega
      · have hxf' : ¬ (xf : Int) = 0 := by omega
        have HY2 : Hid (ll y = foldF 0 (ws.take (i + 1)) (ll l0)) := by
          show ll y = foldF 0 (ws.take (i + 1)) (ll l0)
          rw [HT.out, foldF_snoc, if_neg hxf, HY.out]
        go_wp2_with fail
        exact ⟨⟨i + 1, y, rfl, rfl, by omega, HY2, HB.out.alloc zb _⟩, by simp [intOf]; omega⟩
    · obtain rfl : i = ws.length := by omega
      rw [List.take_length] at HY
      go_wp2_with fail
      go_ret
      exact ⟨by rw [mk_ll HY.out]; rfl, HB.out⟩
set_option maxRecDepth 20000 in
set_option maxHeartbeats 1000000 in
theorem rseen1 (X : World) (B D : Nat) (l0 l1 : ByteArray) (vw : Value) (ws : List Chg) (left count : Int) (down : Bool) (h : RD X B D l0 l1 vw ws left count down) (hw : ws.length ≤ 1000000) :
    Calls Try.prog 40 #[(.pointer (some ⟨D, 0, none⟩)), .int .i64 1] X fun e w' => e = .returned (.string ⟨(foldF 1 ws (ll l1)).toArray⟩) ∧ Below X.heap.size X w' := by
  have H : Hid (RD X B D l0 l1 vw ws left count down) := h
  obtain ⟨aw, cw, rfl⟩ := owns_sliceA h.wrow
  obtain ⟨c0, c1, c2, -⟩ := h.cells
  have hsF := h.s1
  have hoks : Hid _ := h.oks
  clear h
  go_enter Try.func40, Try.ntmps40
  go_wp2_with fail
  go_loopw [5, 19] (fun v u w => ∃ (i : Nat) (y : ByteArray), u = .int .i64 i ∧ v = .string y ∧ i ≤ ws.length ∧ Hid (ll y = foldF 1 (ws.take i) (ll l1)) ∧ Hid (Below X.heap.size X w)) (fun _ u _ => ws.length - (intOf u).toNat)
  case atStart => exact ⟨0, l1, rfl, rfl, Nat.zero_le _, (rfl : ll l1 = foldF 1 [] (ll l1)), Below.refl _ _⟩
  case round =>
    obtain ⟨i, y, rfl, rfl, hin, HY, HB⟩ := hrel
    by_cases hlt : i < ws.length
    · have ki : (0 : Int) ≤ (i : Int) := by omega
      have kn : (i : Int) < (ws.length : Int) := by omega
      have HQ : Hid _ := H.out.below HB.out
      obtain ⟨g, cap', ee, _, _⟩ := World.ownsRow.form HQ.out.wrow (by omega)
      injection ee with ee1 ee2 ee3
      subst ee1 ee3
      obtain ⟨xf, p, t, c, hx⟩ : ∃ xf p t c, ws[i] = (⟨xf, p, t, c⟩ : Chg) := ⟨_, _, _, _, rfl⟩
      obtain ⟨k1, k2, k3⟩ : okC ⟨xf, p, t, c⟩ := hx ▸ hoks.out _ (List.getElem_mem hlt)
      have HK3 : Hid _ := k3
      have k2 : p + t.size ≤ 67108864 := k2
      obtain ⟨d0, d1, d2, d3⟩ := racells HQ.out hlt hx
      have HT : Hid _ := (take_snoc hlt).trans (by rw [hx])
      have zb := HB.out.size
      have zg := (World.ownsRow.lt HQ.out.wrow g rfl).2
      have hys : y.size ≤ 67108864 := by
        rw [← ll_len, HY.out]
        exact foldF_len (fun x hx => hoks.out x (List.mem_of_mem_take hx)) (by rw [ll_len]; exact hsF)
      clear k3 hx
      by_cases hxf : xf = 1
      · subst hxf
        go_wp2_with fail
        refine (ron 1 p t c y _ k2 HK3.out hys).mono ?_
        rintro e w2 ⟨rfl, hb⟩
        have HY2 : Hid (ll ⟨(onL p t c (ll y)).toArray⟩ = foldF 1 (ws.take (i + 1)) (ll l1)) := by
          show onL p t c (ll y) = foldF 1 (ws.take (i + 1)) (ll l1)
          rw [HT.out, foldF_snoc, if_pos rfl, HY.out]
        have HB2 : Hid (Below X.heap.size X w2) := (HB.out.alloc zb _).trans (hb.mono (by simp; omega))
        clear hb d0 d1 d2 d3
        generalize (⟨(onL p t c (ll y)).toArray⟩ : ByteArray) = y2 at *
        go_wp2
        go_roundw
        case rel => exact ⟨i + 1, y2, by go_num, rfl, by omega, HY2, HB2⟩
        case measure => simp [intOf]; omega
      · have hxf' : ¬ (xf : Int) = 1 := by omega
        have HY2 : Hid (ll y = foldF 1 (ws.take (i + 1)) (ll l1)) := by
          show ll y = foldF 1 (ws.take (i + 1)) (ll l1)
          rw [HT.out, foldF_snoc, if_neg hxf, HY.out]
        go_wp2_with fail
        exact ⟨⟨i + 1, y, rfl, rfl, by omega, HY2, HB.out.alloc zb _⟩, by simp [intOf]; omega⟩
    · obtain rfl : i = ws.length := by omega
      rw [List.take_length] at HY
      go_wp2_with fail
      go_ret
      exact ⟨by rw [mk_ll HY.out]; rfl, HB.out⟩
end Go.Proofs.Ytfjkockcgddgbaa
