/- ValueKeys: the law -/
import Derived.Test.YthimnpobcfkghaaKeyH
import Derived.Test.YthimnpobcfkghaaRws
namespace Go.Proofs.Ythimnpobcfkghaa
open Go.RowKit Go.Lib
attribute [local go_sem ↓] Go.wp_at_zero Go.wp_at_succ
set_option maxRecDepth 20000 in
set_option maxHeartbeats 2000000 in
theorem lkeys (al : Option Addr) (ln lc : Nat) (K N : Nat → Int) (S : Nat → ByteArray) (s : ByteArray) (w : World) (hA : LiesA w al ln K N S) (hn : ln ≤ 1048576) (hl : lenS S ln ≤ 1048576) (hs : s.size ≤ 1048576) :
    Calls Try.prog 3 #[.slice al ln lc, .string s] w fun e w' => e = .returned (.bool true) ∧ Below w.heap.size w w' := by
  have HA : Hid (LiesA w al ln K N S) := hA
  clear hA
  go_enter Try.func3, Try.ntmps3
  go_wp2_with fail
  refine (vunkey s _ (by omega)).mono ?_
  rintro e w1 ⟨h, hb1⟩
  have HB1 : Hid (Below w.heap.size w w1) := hb1
  clear hb1
  rcases h with ⟨c, v1, hk, rfl, ho1⟩ | ⟨hac, rfl⟩
  · have HC : Hid (isKey s c) := hk
    have hcs := kP_le hk
    have HO1 : Hid (w1.ownsRow w.heap.size 42 3 v1 c (cellsF c (yK s) (yN s) (yS s))) := ho1
    clear ho1 hk
    go_wp2_with fail
    refine (runkey s _ (by omega)).mono ?_
    rintro e w2 ⟨h, hb⟩
    rcases h with ⟨c', v2, hk', rfl, ho2⟩ | ⟨hno, -⟩
    · obtain rfl := isKey_one HC.out hk'
      have HB2 : Hid (Below w.heap.size w w2) := HB1.out.trans (hb.mono HB1.out.size)
      have HO1a : Hid (w2.ownsRow w.heap.size 42 3 v1 c (cellsF c (yK s) (yN s) (yS s))) := row_below HO1.out hb
      have HNE : Hid (v2.ownBlock = none ∨ v2.ownBlock ≠ v1.ownBlock) := apart2 HO1.out ho2
      have HO2 : Hid (w2.ownsRow w.heap.size 42 3 v2 c (cellsF c (yK s) (yN s) (yS s))) := own_mono3 ho2 HB1.out.size
      clear ho2 hb HO1 hk'
      obtain ⟨a1, c1, rfl⟩ := owns_slice HO1a.out
      obtain ⟨a2, c2, rfl⟩ := owns_slice HO2.out
      go_wp2_with fail
      refine (clent _ _ _ K N S _ (HA.out.below HB2.out) (by omega) (by omega)).mono ?_
      rintro e w3 ⟨g, cap1, rfl, lo1, hi1, cp1, L1, M1, hb⟩
      have i1 : (0 : Int) ≤ (ln : Int) := by omega
      have i3 : (ln : Int) ≤ (cap1 : Int) := by omega
      have H3 : Hid (RI w w3 al ln K N S g) := ⟨HB2.out.trans (hb.mono HB2.out.size), hi1, L1, (HA.out.below HB2.out).below hb, M1⟩
      have HO1b : Hid _ := row_below HO1a.out hb
      have HO2b : Hid _ := row_below HO2.out hb
      clear L1 M1 hb lo1 hi1 HO1a HO2
      go_wp2_with fail
      refine (vkey _ _ _ K N S _ (.inr ⟨g, 0, rfl, H3.out.lent⟩) (by omega)).mono ?_
      rintro e w4 ⟨rfl, hb⟩
      have H4 : Hid (RI w w4 al ln K N S g) := H3.out.step hb
      have HO1c : Hid _ := row_below HO1b.out hb
      have HO2c : Hid _ := row_below HO2b.out hb
      clear hb H3 HO1b HO2b
      go_wp2_with fail
      refine (rkey _ _ _ K N S _ H4.out.arg (by omega)).mono ?_
      rintro e w5 ⟨rfl, hb⟩
      have H5 : Hid (RI w w5 al ln K N S g) := H4.out.step hb
      have HO1d : Hid _ := row_below HO1c.out hb
      have HO2d : Hid _ := row_below HO2c.out hb
      clear hb H4 HO1c HO2c
      generalize (⟨(kyL K N S ln).toArray⟩ : ByteArray) = T
      go_wp2_with fail
      refine (H5.out.back cp1 (by omega)).mono ?_
      rintro e w6 ⟨rfl, hb⟩
      have H6 : Hid (RI w w6 al ln K N S g) := H5.out.step hb
      have HO1e : Hid _ := row_below HO1d.out hb
      have HO2e : Hid _ := row_below HO2d.out hb
      clear hb H5 HO1d HO2d
      go_wp2_with fail
      refine (csameA _ _ _ _ _ (yK s) (yN s) (yS s) _ (lies_owned HO1e.out) (lies_owned HO2e.out) (by omega)).mono ?_
      rintro e w7 ⟨rfl, hb⟩
      have H7 : Hid (RI w w7 al ln K N S g) := H6.out.step hb
      have HO1f : Hid _ := row_below HO1e.out hb
      have HO2f : Hid _ := row_below HO2e.out hb
      clear hb H6 HO1e HO2e
      go_wp2_with fail
      refine (lnumN _ _).mono ?_
      rintro e w' ⟨rfl, rfl⟩
      go_wp2_with fail
      refine (cspoil _ _ _ _ _ HO1f.out H7.out.bel.size (by omega)).mono ?_
      rintro e w8 ⟨rfl, hbut⟩
      have HB8 : Hid (Below w.heap.size w w8) := below_appV H7.out.bel HO1f.out H7.out.bel.size hbut
      have HO2g : Hid _ := World.ownsRow.kept HO2f.out hbut HNE.out
      clear hbut H7 HO1f HO2f
      go_wp2_with fail
      refine (vunkey s _ (by omega)).mono ?_
      rintro e w9 ⟨h, hb⟩
      rcases h with ⟨c3, v3, hk3, rfl, ho3⟩ | ⟨hno, -⟩
      · obtain rfl := isKey_one HC.out hk3
        have HB9 : Hid (Below w.heap.size w w9) := HB8.out.trans (hb.mono HB8.out.size)
        have HO2h : Hid _ := row_below HO2g.out hb
        obtain ⟨a3, c3', rfl⟩ := owns_slice ho3
        have HO3 : Hid _ := ho3
        clear ho3 hb HB8 HO2g hk3
        go_wp2_with fail
        refine (csameA _ _ _ _ _ (yK s) (yN s) (yS s) _ (lies_owned HO3.out) (lies_owned HO2h.out) (by omega)).mono ?_
        rintro e w10 ⟨rfl, hb⟩
        have HB10 : Hid (Below w.heap.size w w10) := HB9.out.trans (hb.mono HB9.out.size)
        clear hb
        go_wp2
        go_ret
        exact ⟨rfl, HB10.out⟩
      · exact absurd ⟨_, HC.out⟩ hno
    · exact absurd ⟨_, HC.out⟩ hno
  · have HC : Hid (¬ ∃ n, isKey s n) := hac
    clear hac
    go_wp2_with fail
    refine (runkey s _ (by omega)).mono ?_
    rintro e w2 ⟨h, hb⟩
    rcases h with ⟨c', v2, hk', -, -⟩ | ⟨-, rfl⟩
    · exact absurd ⟨_, hk'⟩ HC.out
    · have HB2 : Hid (Below w.heap.size w w2) := HB1.out.trans (hb.mono HB1.out.size)
      clear hb HB1
      go_wp2_with fail
      refine (clent _ _ _ K N S _ (HA.out.below HB2.out) (by omega) (by omega)).mono ?_
      rintro e w3 ⟨g, cap1, rfl, lo1, hi1, cp1, L1, M1, hb⟩
      have i1 : (0 : Int) ≤ (ln : Int) := by omega
      have i3 : (ln : Int) ≤ (cap1 : Int) := by omega
      have H3 : Hid (RI w w3 al ln K N S g) := ⟨HB2.out.trans (hb.mono HB2.out.size), hi1, L1, (HA.out.below HB2.out).below hb, M1⟩
      clear L1 M1 hb lo1 hi1
      go_wp2_with fail
      refine (vkey _ _ _ K N S _ (.inr ⟨g, 0, rfl, H3.out.lent⟩) (by omega)).mono ?_
      rintro e w4 ⟨rfl, hb⟩
      have H4 : Hid (RI w w4 al ln K N S g) := H3.out.step hb
      clear hb H3
      go_wp2_with fail
      refine (rkey _ _ _ K N S _ H4.out.arg (by omega)).mono ?_
      rintro e w5 ⟨rfl, hb⟩
      have H5 : Hid (RI w w5 al ln K N S g) := H4.out.step hb
      clear hb H4
      generalize (⟨(kyL K N S ln).toArray⟩ : ByteArray) = T
      go_wp2_with fail
      refine (H5.out.back cp1 (by omega)).mono ?_
      rintro e w6 ⟨rfl, hb⟩
      have H6 : Hid (RI w w6 al ln K N S g) := H5.out.step hb
      clear hb H5
      go_wp2_with fail
      refine (csameA none 0 0 none 0 (yK s) (yN s) (yS s) _ (.inl rfl) (.inl rfl) (by omega)).mono ?_
      rintro e w7 ⟨rfl, hb⟩
      have H7 : Hid (RI w w7 al ln K N S g) := H6.out.step hb
      clear hb H6
      go_wp2_with fail
      refine (lnumN _ _).mono ?_
      rintro e w' ⟨rfl, rfl⟩
      go_wp2_with fail
      refine (cspoil 0 _ 0 [] _ (World.ownsRow_nil _ _ _ _) (Nat.zero_le _) (by omega)).mono ?_
      rintro e w8 ⟨rfl, hbut⟩
      have HB8 : Hid (Below w.heap.size w w8) := H7.out.bel.grown hbut H7.out.bel.size (fun k hk => by cases hk)
      clear hbut H7
      go_wp2_with fail
      refine (vunkey s _ (by omega)).mono ?_
      rintro e w9 ⟨h, hb⟩
      rcases h with ⟨c', v2, hk', -, -⟩ | ⟨-, rfl⟩
      · exact absurd ⟨_, hk'⟩ HC.out
      · have HB9 : Hid (Below w.heap.size w w9) := HB8.out.trans (hb.mono HB8.out.size)
        clear hb HB8
        go_wp2_with fail
        refine (csameA none 0 0 none 0 (yK s) (yN s) (yS s) _ (.inl rfl) (.inl rfl) (by omega)).mono ?_
        rintro e w10 ⟨rfl, hb⟩
        have HB10 : Hid (Below w.heap.size w w10) := HB9.out.trans (hb.mono HB9.out.size)
        clear hb
        go_wp2
        go_ret
        exact ⟨rfl, HB10.out⟩
end Go.Proofs.Ythimnpobcfkghaa
