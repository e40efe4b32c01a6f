/- package pool: begin; Open of a new disk, and of what a crash left -/
import Derived.Test.YtfbankloclhplacGreatPoQ
namespace Go.Proofs.YtfbankloclhplacGreat
open Go.RowKit Go.Lib Go.Maps Go.Sort Go.Shelf
attribute [local go_sem ↓] Go.wp_at_zero Go.wp_at_succ
set_option maxRecDepth 20000 in
set_option maxHeartbeats 1000000 in
theorem cbegin_old {W : World} {B D G bp bf n : Nat} {L : LS} {S : DS} (h : PL W B D G bp bf n L S) (hp : 1 ≤ L.last.pages) :
    Calls Tryz.prog 91 #[(.pointer (some ⟨G, 0, none⟩))] W fun e w' => e = .returned (.int .i64 0) ∧ w' = W := by
  have hp' : (0 : Int) < (L.last.pages : Int) := by omega
  have HC := hide (cpages W B D G bp bf n L S h)
  clear h
  go_enter Tryz.func91, Tryz.ntmps91
  go_wp2_with fail
  refine HC.out.mono ?_
  rintro e w1 ⟨rfl, hw⟩; rw [hw]; clear hw
  go_wp2
  go_ret
  exact ⟨rfl, rfl⟩
def L00 : LS := ⟨⟨0, 1, 0, 0⟩, 0, fun _ => none, fun _ => none⟩
def K00 : Pgs := wth noP 0 (pgB 4 0)
theorem new_cm : ∃ L1 S1, cmL L00 newS ((0 : Nat) : Int) (pgB 4 0) ((1 : Nat) : Int) = (0, L1, S1) ∧ L1.last.pages = 1 ∧ Inv L1 S1 K00 K00 1 ∧ NoF S1 ∧ okS S1 8 := by
  have hn : NoF newS := ⟨rfl, rfl⟩
  have hnf := cmL_nf (L := L00) hn ((0 : Nat) : Int) (pgB 4 0) ((1 : Nat) : Int)
  have hok := cmL_ok (L := L00) (S := newS) (k := 4) ⟨⟨by decide, by decide⟩, by decide, by decide, by decide⟩ ((0 : Nat) : Int) (pgB 4 0) ((1 : Nat) : Int)
  rcases cm_out (n := 0) (pg := 1) inv_new (by omega) (by omega) (pgB_size 4 0) (by omega) (by omega) with ⟨L1, S1, e1, d1, -⟩ | ⟨L1, S1, e1, d1, p1, I1⟩
  · exfalso
    have e1 : cmL L00 newS ((0 : Nat) : Int) (pgB 4 0) ((1 : Nat) : Int) = (2, L1, S1) := e1
    rw [e1] at hnf
    have := hnf.2
    rw [d1] at this
    cases this
  · have e1 : cmL L00 newS ((0 : Nat) : Int) (pgB 4 0) ((1 : Nat) : Int) = (0, L1, S1) := e1
    rw [e1] at hnf hok
    exact ⟨L1, S1, e1, p1, I1, hnf, hok⟩
set_option maxRecDepth 20000 in
set_option maxHeartbeats 1000000 in
theorem cbegin_new {W : World} {B D G bp bf : Nat} (h : PL W B D G bp bf 60000 L00 newS) (hB : B ≤ W.heap.size) {L1 : LS} {S1 : DS} (hc : cmL L00 newS ((0 : Nat) : Int) (pgB 4 0) ((1 : Nat) : Int) = (0, L1, S1)) (hI : Inv L1 S1 K00 K00 1) :
    Calls Tryz.prog 91 #[(.pointer (some ⟨G, 0, none⟩))] W fun e w' => e = .returned (.int .i64 0) ∧ PL w' B D G bp bf 60000 L1 S1 ∧ Below B W w' := by
  have HC := hide (cpages W B D G bp bf 60000 L00 newS h)
  have HP := hide (h)
  have HB := hide (hB)
  have HM := hide (hc)
  have HI := hide (hI)
  clear h hB hc hI
  go_enter Tryz.func91, Tryz.ntmps91
  go_wp2_with fail
  refine HC.out.mono ?_
  rintro e w1 ⟨rfl, hw⟩; rw [hw]; clear hw
  have e0 : ((L00.last.pages : Nat) : Int) = 0 := rfl
  rw [e0]
  go_wp2_with fail
  refine (csealB (K := 4) (Lk := 0) ⟨by decide, by decide⟩ (by decide) none 0 _).mono ?_
  rintro e w2 ⟨rfl, b2⟩
  have HP2 := hide (HP.out.below b2)
  have HB2 := hide (show B ≤ w2.heap.size from Nat.le_trans HB.out b2.size)
  have HBW := hide (show Below B W w2 from b2.mono HB.out)
  have HCM := hide (ccommit ((0 : Nat) : Int) (pgB 4 0) ((1 : Nat) : Int) w2 B D G bp bf 60000 4 L00 newS HP2.out HB2.out (by decide) ⟨⟨by decide, by decide⟩, by decide, by decide, by decide⟩ (by decide) (by decide) inv_new.pre.tp.ok)
  rw [HM.out] at HCM
  clear b2
  go_wp2_with fail
  refine HCM.out.mono ?_
  rintro e w3 ⟨rfl, p3, b3⟩
  have HP3 := hide (p3.small HI.out.pos HI.out.posF)
  have HB3 := hide (HBW.out.trans b3.toBelow)
  clear p3 b3 HCM
  go_wp2
  go_ret
  exact ⟨rfl, HP3.out, HB3.out⟩
/- a pool over a new disk -/
theorem copen_first {X : World} {B D : Nat} (h : PDs X B D newD) (hB : B ≤ X.heap.size) :
    Calls Tryz.prog 34 #[(.pointer (some ⟨D, 0, none⟩)), .int .i64 8] X fun e w' => ∃ Gp V, e = .returned (.tuple #[(.pointer (some ⟨Gp, 0, none⟩)), .int .i64 0]) ∧ PO w' B D Gp V K00 K00 1 1 ∧ NoF V.S ∧ V.P.pages = 1 ∧ V.P.free = 0 ∧ Below B X w' := by
  obtain ⟨L1, S1, hc, p1, hI, hnf, hok⟩ := new_cm
  obtain ⟨T1, T2, T3, hS⟩ := beg_new
  have := copenP (X := X) (B := B) (D := D) (Z := B) (L0 := L00) (L := L1) (S0 := newS) (S := S1) (F := K00) (j := 1) (k := 8) (m := 1) (fr := 0) 8 ⟨by decide, by decide⟩
    ((copen_new X B D 0 newD T1 T2 T3 newS h hB ⟨⟨by decide, by decide⟩, by decide, by decide, by decide⟩ (by decide) rfl new_last 0 rfl hS).mono (by
      rintro e w' ⟨G, bp, bf, rfl, hL, hb⟩
      exact ⟨G, bp, bf, rfl, hL.mono (by omega), hb.toBelow⟩))
    (fun G bp bf W hW hBW => (cbegin_new hW hBW hc hI).mono (by
      rintro e w' ⟨rfl, hL, hb⟩
      exact ⟨rfl, hL, hb, hb.mono (by omega)⟩))
    hB hB hI (Nat.le_refl _) (by decide) hok (by decide) ⟨by omega, by omega⟩ (fun n n0 n1 => ⟨pgB 4 0, by
      have : n = 0 := by omega
      subst this
      exact wth_at _ _ _, pgB_size _ _⟩) (by decide) (wth_at _ _ _) hnf.2
  refine this.mono ?_
  rintro e w' ⟨Gp, V, rfl, q1, q2, q3, q4, q5⟩
  rw [p1] at q1 q3
  exact ⟨Gp, V, rfl, q1, by rw [q2]; exact hnf, q3, q4, q5⟩
/- a pool over what a crash left -/
theorem copen_again {X : World} {B D k m fr : Nat} {S : DS} {F : Pgs} {c : Cm} (h : PDs X B D S) (hB : B ≤ X.heap.size) (hG : GoodS { S with left := -1 } F c) (hd : S.down = false) (hfm : c.frames ≤ m) (hm : m ≤ 60000) (hk : okS S k) (hk' : k ≤ 4 * m + 20) (hpg : 1 ≤ c.pages ∧ c.pages ≤ 59000) (hkd : ∀ n : Int, 0 ≤ n → n < c.pages → ∃ t, F n = some t ∧ t.size = 1024) (hf : fr ≤ 2147483647) (hF : F 0 = some (pgB 4 fr)) :
    Calls Tryz.prog 34 #[(.pointer (some ⟨D, 0, none⟩)), .int .i64 8] X fun e w' => ∃ Gp V, e = .returned (.tuple #[(.pointer (some ⟨Gp, 0, none⟩)), .int .i64 0]) ∧ PO w' B D Gp V F F c.pages m ∧ V.S = S ∧ V.P.pages = c.pages ∧ V.P.free = fr ∧ Below X.heap.size X w' := by
  obtain ⟨hI, hl⟩ := good_inv hG
  have hI : Inv (opnL (S.lb 2)) S F F c.frames := hI.same rfl rfl
  have hl : (opnL (S.lb 2)).last = c := hl
  have hlc : lastC (S.lb 2) = c := hl
  have hnum := hG.tp.number
  have := copenP (X := X) (B := B) (D := D) (Z := X.heap.size) (L0 := opnL (S.lb 2)) (L := opnL (S.lb 2)) (S0 := S) (S := S) (F := F) (j := c.frames) (k := k) (m := m) (fr := fr) 8 ⟨by decide, by decide⟩
    ((copen X B D S h hB hd (by rw [hlc]; omega)).mono (by
      rintro e w' ⟨G, bp, bf, rfl, hL, hb⟩
      exact ⟨G, bp, bf, rfl, (hL.small hI.pos hI.posF), hb⟩))
    (fun G bp bf W hW hBW => (cbegin_old hW (by rw [hl]; exact hpg.1)).mono (by
      rintro e w' ⟨rfl, rfl⟩
      exact ⟨rfl, hW, Below.refl _ _, Below.refl _ _⟩))
    hB (Nat.le_refl _) hI hfm hm hk hk' (by rw [hl]; exact hpg) (by rw [hl]; exact hkd) hf hF hd
  rw [hl] at this
  exact this
end Go.Proofs.YtfbankloclhplacGreat
