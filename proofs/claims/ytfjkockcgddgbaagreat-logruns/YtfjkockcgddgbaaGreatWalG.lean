/- package wal: Checkpoint -/
import Derived.Test.YtfjkockcgddgbaaGreatWalF
namespace Go.Proofs.YtfjkockcgddgbaaGreat
open Go.RowKit Go.Lib Go.Maps Go.Sort Go.Shelf
attribute [local go_sem ↓] Go.wp_at_zero Go.wp_at_succ
theorem drawnB (w : World) (m : Nat) : Below w.heap.size w (w.drewN m) := ⟨rfl, rfl, rfl, Nat.le_refl _, fun _ _ => rfl⟩
theorem okS_up {S : DS} {a b : Nat} (h : okS S a) (hab : a ≤ b) : okS S b := by
  obtain ⟨h1, h2, h3, h4⟩ := h
  exact ⟨h1, h2, by omega, by omega⟩
theorem stlK_ok {L : LS} : ∀ {ks : List Int} {S : DS} {k : Nat}, okS S k → okS (stlK L ks S).2 (k + ks.length)
  | [], S, k, h => h
  | n :: r, S, k, h => by
    unfold stlK
    split
    · exact okS_up h (by simp)
    · split
      · exact okS_up h (by simp)
      · split
        · exact okS_up (opD_ok h _ _ _ _) (by simp)
        · have := stlK_ok (L := L) (ks := r) (opD_ok h 0 (1024 * n) (rdF S ((L.pl n).getD 0)).1 false)
          exact okS_up this (by simp; omega)
theorem stlL_ok {L : LS} {S : DS} {k : Nat} (ks : List Int) (h : okS S k) : okS (stlL L S ks).2 (k + ks.length + 2) := by
  unfold stlL
  split
  · exact okS_up (stlK_ok h) (by omega)
  · split
    · exact okS_up (opD_ok (stlK_ok h) _ _ _ _) (by omega)
    · exact synD_ok (opD_ok (stlK_ok h) _ _ _ _) _
def ckL (L : LS) (S : DS) (ks : List Int) : Int × LS × DS :=
  if ¬ L.fr = L.last.frames then (11, L, S) else if L.fr = 0 then (0, L, S) else
  if ¬ (stlL L S ks).1 = 0 then ((stlL L S ks).1, L, (stlL L S ks).2) else
  if ¬ (tlL L (stlL L S ks).2 0 L.last.pages).1 = 0 then tlL L (stlL L S ks).2 0 L.last.pages else
  (0, { (tlL L (stlL L S ks).2 0 L.last.pages).2.1 with pl := fun _ => none }, (tlL L (stlL L S ks).2 0 L.last.pages).2.2)
set_option maxRecDepth 20000 in
set_option maxHeartbeats 1000000 in
theorem ccheckpoint (X : World) (B D G bp bf m k : Nat) (L : LS) (S : DS) (h : PL X B D G bp bf m L S) (hB : B ≤ X.heap.size) (hm : m ≤ 100000) (ho : okS S k) (hk : k ≤ 100000) (hp : okM L.pl) (hpos : ∀ x, (L.pl x).isSome = true → 0 ≤ x) (hc : okCm L.last) :
    Calls Tryz.prog 20 #[(.pointer (some ⟨G, 0, none⟩))] X fun e w' => ∃ ks, (L.fr = L.last.frames → ¬ L.fr = 0 → KeysOf L.pl ks ∧ ks.length ≤ m) ∧ e = .returned (.int .i64 (ckL L S ks).1) ∧ PL w' B D G bp bf m (ckL L S ks).2.1 (ckL L S ks).2.2 ∧ BelL G bp bf B X w' := by
  obtain ⟨c0, c1, c2, c3, c4, c5, c6, c7⟩ := h.cells
  have HP : Hid (PL X B D G bp bf m L S) := h
  have HB0 : Hid (B ≤ X.heap.size) := hB
  have HC : Hid (okCm L.last) := hc
  have HO : Hid (okS S k) := ho
  have HM : Hid (okM L.pl ∧ ∀ x, (L.pl x).isSome = true → 0 ≤ x) := (⟨hp, hpos⟩ : okM L.pl ∧ ∀ x, (L.pl x).isSome = true → 0 ≤ x)
  clear h hc hp hpos ho hB
  by_cases q1 : L.fr = L.last.frames
  · by_cases q2 : L.fr = 0
    · have q3 : ((L.fr : Int) == (L.last.frames : Int)) = true := by simp [q1]
      have q4 : ((L.fr : Int) == 0) = true := by simp [q2]
      have e9 : ckL L S [] = (0, L, S) := by unfold ckL; rw [if_neg (fun h => h q1), if_pos q2]
      have E9 : Hid (ckL L S [] = (0, L, S)) := e9
      have Q : Hid (L.fr = 0) := q2
      clear e9 q1 q2
      go_enter Tryz.func20, Tryz.ntmps20
      go_wp2_with fail
      go_quiet (fail)
      go_wp2
      go_ret
      exact ⟨[], fun _ h => absurd Q.out h, by rw [E9.out]; rfl, by rw [E9.out]; exact HP.out.below (drawnB _ _), below_log (drawnB _ _) HB0.out G bp bf⟩
    · have q3 : ((L.fr : Int) == (L.last.frames : Int)) = true := by simp [q1]
      have q4 : ((L.fr : Int) == 0) = false := by simp [q2]
      have Q : Hid (L.fr = L.last.frames ∧ ¬ L.fr = 0) := (⟨q1, q2⟩ : L.fr = L.last.frames ∧ ¬ L.fr = 0)
      clear q1 q2
      go_enter Tryz.func20, Tryz.ntmps20
      go_wp2_with fail
      go_quiet (fail)
      go_wp2_with fail
      refine (csettle _ B D G bp bf m k L S (HP.out.below (drawnB _ _)) HB0.out hm HO.out hk HM.out.1 HM.out.2 HC.out).mono ?_
      rintro e w1 ⟨ks, hks, hkl, rfl, hp1, hb1⟩
      obtain ⟨r1, T1, hr1⟩ : ∃ r T, stlL L S ks = (r, T) := ⟨_, _, rfl⟩
      obtain ⟨r2, L2, T2, hr2⟩ : ∃ r l T, tlL L T1 0 L.last.pages = (r, l, T) := ⟨_, _, _, rfl⟩
      have hE : ckL L S ks = if ¬ r1 = 0 then (r1, L, T1) else if ¬ r2 = 0 then (r2, L2, T2) else (0, { L2 with pl := fun _ => none }, T2) := by
        unfold ckL
        rw [if_neg (fun h => h Q.out.1), if_neg Q.out.2, hr1, hr2]
      have hO1 := stlL_ok (L := L) ks HO.out
      rw [hr1] at hp1 hO1 ⊢
      have HE : Hid (ckL L S ks = if ¬ r1 = 0 then (r1, L, T1) else if ¬ r2 = 0 then (r2, L2, T2) else (0, { L2 with pl := fun _ => none }, T2)) := hE
      have HO1 : Hid (okS T1 (k + ks.length + 2)) := hO1
      have HP1 : Hid (PL w1 B D G bp bf m L T1) := hp1
      have HF1 : Hid (BelL G bp bf B X w1) := (below_log (drawnB _ _) HB0.out G bp bf).trans hb1
      have HKS : Hid (KeysOf L.pl ks) := hks
      have HR2 : Hid (tlL L T1 0 L.last.pages = (r2, L2, T2)) := hr2
      clear hE hO1 hp1 hb1 hks hr1 hr2 c0 c1 c2 c3 c4 c5 c6 c7
      obtain ⟨c0, c1, c2, c3, c4, c5, c6, c7⟩ := HP1.out.cells
      by_cases z1 : r1 = 0
      · subst z1
        go_wp2_with fail
        refine (ctellL 0 L.last.pages w1 B D G bp bf m (k + ks.length + 2) L T1 HP1.out (Nat.le_trans HB0.out HF1.out.size) HO1.out (by omega) HC.out).mono ?_
        rw [HR2.out]
        rintro e w2 ⟨rfl, hp2, hb2⟩
        have HP2 : Hid (PL w2 B D G bp bf m L2 T2) := hp2
        have HF2 : Hid (BelL G bp bf B X w2) := HF1.out.trans hb2
        clear hp2 hb2 c0 c1 c2 c3 c4 c5 c6 c7
        obtain ⟨c0, c1, c2, c3, c4, c5, c6, c7⟩ := HP2.out.cells
        by_cases z2 : r2 = 0
        · subst z2
          obtain ⟨Y, hrun, hMI, hgY⟩ := HP2.out.mp.clear 0
          have HY : Hid (PL Y B D G bp bf m { L2 with pl := fun _ => none } T2) := HP2.out.places hgY (hMI.mono (Nat.zero_le _)) (Nat.le_refl _)
          have HFY : Hid (BelL G bp bf B X Y) := HF2.out.trans (grown_log hgY (Nat.le_trans HB0.out HF2.out.size) (.inr (.inl rfl)) HP2.out.low.2.1)
          clear hMI hgY
          go_wp2
          go_ret
          exact ⟨ks, fun _ _ => ⟨HKS.out, hkl⟩, by rw [HE.out]; rfl, by rw [HE.out]; exact HY.out, HFY.out⟩
        · have z3 : (r2 == 0) = false := by simpa using z2
          have HZ : Hid (¬ r2 = 0) := z2
          go_wp2
          go_ret
          exact ⟨ks, fun _ _ => ⟨HKS.out, hkl⟩, by rw [HE.out]; simp [HZ.out], by rw [HE.out]; simpa [HZ.out] using HP2.out, HF2.out⟩
      · have z3 : (r1 == 0) = false := by simpa using z1
        have HZ : Hid (¬ r1 = 0) := z1
        go_wp2
        go_ret
        exact ⟨ks, fun _ _ => ⟨HKS.out, hkl⟩, by rw [HE.out]; simp [HZ.out], by rw [HE.out]; simpa [HZ.out] using HP1.out, HF1.out⟩
  · have q3 : ((L.fr : Int) == (L.last.frames : Int)) = false := by simp; omega
    have e9 : ckL L S [] = (11, L, S) := by unfold ckL; rw [if_pos q1]
    have E9 : Hid (ckL L S [] = (11, L, S)) := e9
    have Q : Hid (¬ L.fr = L.last.frames) := q1
    clear e9 q1
    go_enter Tryz.func20, Tryz.ntmps20
    go_wp2_with fail
    go_quiet (fail)
    go_wp2
    go_ret
    exact ⟨[], fun h => absurd h Q.out, by rw [E9.out]; rfl, by rw [E9.out]; exact HP.out.below (drawnB _ _), below_log (drawnB _ _) HB0.out G bp bf⟩
end Go.Proofs.YtfjkockcgddgbaaGreat
