/- relstorelaw: num, files -/
import Derived.Test.YtfjkockcgddgbaaDrsA
namespace Go.Proofs.Ytfjkockcgddgbaa
open Go.RowKit Go.Lib
attribute [local go_sem ↓] Go.wp_at_zero Go.wp_at_succ
set_option maxHeartbeats 600000 in
theorem dnum (z : Int) (w : World) :
    Calls Try.prog 26 #[.int .i64 z] w fun e w' => e = .returned (.int .i64 z) ∧ w' = w := by
  go_enter Try.func26, Try.ntmps26
  go_wp2
  go_ret
  exact ⟨rfl, rfl⟩
theorem ask_file {f : Nat} (hf : f < 2) (down : Bool) : askE f 0 0 down = if down then 2 else 0 := by
  unfold askE
  rw [if_pos (by unfold fitsD; exact decide_eq_true (by omega))]
theorem siz_file {f : Nat} (hf : f < 2) (lb : Nat → List UInt8) : sizV f lb false = ((lb (2 * f)).length : Int) := by
  unfold sizV
  rw [ask_file hf, if_pos (by decide), Int.toNat_natCast]
theorem ask_whole {f n : Nat} (hf : f < 2) (hn : n ≤ 67108864) : askE f 0 n false = 0 := by
  unfold askE
  rw [if_pos (by unfold fitsD; exact decide_eq_true (by omega))]; rfl
theorem rdE_whole {f : Nat} (hf : f < 2) (lb : Nat → List UInt8) (hn : (lb (2 * f)).length ≤ 67108864) : rdE f 0 ((lb (2 * f)).length : Int) lb false = 0 := by
  unfold rdE
  rw [ask_whole hf hn, if_pos rfl, Int.toNat_natCast, if_neg (by omega)]
theorem rdS_whole {f : Nat} (hf : f < 2) (lb : Nat → List UInt8) (hn : (lb (2 * f)).length ≤ 67108864) {y : ByteArray} (hy : ll y = lb (2 * f)) : rdS f 0 ((lb (2 * f)).length : Int) lb false = y := by
  unfold rdS
  rw [rdE_whole hf lb hn, if_pos rfl]
  apply ll_inj
  show ((lb (2 * (f : Int).toNat)).drop (0 : Int).toNat).take ((lb (2 * f)).length : Int).toNat = ll y
  rw [Int.toNat_natCast, Int.toNat_natCast, hy]
  show ((lb (2 * f)).drop 0).take (lb (2 * f)).length = lb (2 * f)
  rw [List.drop_zero, List.take_length]
set_option maxRecDepth 20000 in
set_option maxHeartbeats 1000000 in
theorem lfiles (X : World) (B D R m : Nat) (hm : m ≤ 1000000) (h : DR X B D R m) :
    Calls Try.prog 9 #[(.pointer (some ⟨D, 0, none⟩)), (.pointer (some ⟨R, 0, none⟩))] X fun e w' => e = .returned (.bool true) ∧ Below X.heap.size X w' := by
  obtain ⟨vb, vw, lb, ws, left, count, down, l0, l1, vw', h⟩ := h
  have H : Hid (DRS X B D R m vb vw lb ws left count down l0 l1 vw') := h
  have hlen := h.len
  have hw : ws.length ≤ 1000000 := by omega
  clear h
  go_enter Try.func9, Try.ntmps9
  go_wp2_with fail
  go_loopw [5] (fun u w => ∃ (f : Nat), u = .int .i64 f ∧ f ≤ 2 ∧ Hid (Below X.heap.size X w)) (fun u _ => 2 - (intOf u).toNat)
  case atStart => exact ⟨0, rfl, by omega, Below.refl _ _⟩
  case round =>
    obtain ⟨f, rfl, hf, HB⟩ := hrel
    have HQ : Hid _ := H.out.below HB.out
    by_cases hlt : f < 2
    · have k1 : (f : Int) < 2 := by omega
      have zb := HB.out.size
      cases down
      · have hsz := HQ.out.pd.size (2 * f) (by omega)
        have eA : askE f 0 0 false = 0 := ask_file hlt false
        have eS := siz_file hlt lb
        have eR := rdE_whole hlt lb hsz
        have HT : Hid (∀ y, ll y = lb (2 * f) → rdS f 0 ((lb (2 * f)).length : Int) lb false = y) := fun y hy => rdS_whole hlt lb hsz hy
        go_wp2_with fail
        refine (rseen f hlt _ B R l0 l1 vw' ws _ _ false HQ.out.rd hw lb HQ.out.sees).mono ?_
        rintro e w2 ⟨y, rfl, hy, hb⟩
        have HB2 : Hid (Below X.heap.size X w2) := HB.out.trans (hb.mono zb)
        have HQ2 : Hid _ := HQ.out.below hb
        have hlen : ((lb (2 * f)).length : Int) = (y.size : Int) := by rw [← hy, ll_len]
        have eT := HT.out y hy
        rw [hlen] at eS eR eT
        clear hb hy HB HQ HT
        go_wp2_with fail
        refine (csize f w2 B D vb vw lb ws left count false HQ2.out.pd).mono ?_
        rintro e w3 ⟨rfl, rfl⟩
        rw [eS, eA]
        obtain ⟨-, -, -, -, r4, -⟩ := HQ2.out.rd.cells
        go_wp2_with fail
        refine (cread f 0 y.size w3 B D vb vw lb ws left count false HQ2.out.pd).mono ?_
        rintro e w4 ⟨rfl, rfl⟩
        rw [eR, eT]
        go_wp2_with fail
        refine (dnum 0 w4).mono ?_
        rintro e w5 ⟨rfl, rfl⟩
        go_wp2_with fail
        refine (dnum 0 w5).mono ?_
        rintro e w6 ⟨rfl, rfl⟩
        go_wp2_with fail
        exact ⟨⟨f + 1, rfl, by omega, HB2⟩, by simp [intOf]; omega⟩
      · have eA : askE f 0 0 true = 2 := ask_file hlt true
        have eS : sizV f lb true = 0 := by unfold sizV; rw [eA]; rfl
        go_wp2_with fail
        refine (rseen f hlt _ B R l0 l1 vw' ws _ _ true HQ.out.rd hw lb HQ.out.sees).mono ?_
        rintro e w2 ⟨y, rfl, hy, hb⟩
        have HB2 : Hid (Below X.heap.size X w2) := HB.out.trans (hb.mono zb)
        have HQ2 : Hid _ := HQ.out.below hb
        clear hb hy HB HQ
        go_wp2_with fail
        refine (csize f w2 B D vb vw lb ws left count true HQ2.out.pd).mono ?_
        rintro e w3 ⟨rfl, rfl⟩
        rw [eS, eA]
        obtain ⟨-, -, -, -, r4, -⟩ := HQ2.out.rd.cells
        go_wp2_with fail
        refine (dnum 2 w3).mono ?_
        rintro e w4 ⟨rfl, rfl⟩
        go_wp2_with fail
        go_ret
        exact ⟨rfl, HB2.out⟩
    · obtain rfl : f = 2 := by omega
      go_wp2_with fail
      go_ret
      exact ⟨rfl, HB.out⟩
end Go.Proofs.Ytfjkockcgddgbaa
