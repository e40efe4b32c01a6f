/- ValueRows: the law -/
import Derived.Test.YthimnpobcfkghaaUnp5
namespace Go.Proofs.Ythimnpobcfkghaa
open Go.RowKit Go.Lib
attribute [local go_sem ↓] Go.wp_at_zero Go.wp_at_succ
set_option maxHeartbeats 400000 in
theorem lnumN (x : Int) (w : World) : Calls Try.prog 14 #[.int .i64 x] w fun e w' => e = .returned (.int .i64 x) ∧ w' = w := by
  go_enter Try.func14, Try.ntmps14
  go_wp2
  go_ret
  exact ⟨rfl, rfl⟩
theorem MarksAt.below {w X : World} {g n : Nat} (h : MarksAt w g n) (hg : g < w.heap.size) (hb : Below w.heap.size w X) : MarksAt X g n :=
  ⟨keepCell hb hg h.1, keepCell hb hg h.2.1, keepCell hb hg h.2.2.1, keepCell hb hg h.2.2.2.1, keepCell hb hg h.2.2.2.2.1, keepCell hb hg h.2.2.2.2.2⟩
theorem own_mono3 {W : World} {base base' k : Nat} {v : Value} {xs : List Value} (ho : W.ownsRow base 42 3 v k xs) (h : base' ≤ base) : W.ownsRow base' 42 3 v k xs := by
  refine ⟨ho.1, ?_⟩
  rcases ho.2 with h' | ⟨g, cap, cur, h1, h2, h3⟩
  · exact .inl h'
  · exact .inr ⟨g, cap, cur, h1, Nat.le_trans h h2, h3⟩
theorem apart2 {X Y : World} {base n m : Nat} {v u : Value} {xs ys : List Value} (h1 : X.ownsRow base 42 3 v n xs) (h2 : Y.ownsRow X.heap.size 42 3 u m ys) : u.ownBlock = none ∨ u.ownBlock ≠ v.ownBlock := by
  cases h : u.ownBlock with
  | none => exact .inl rfl
  | some b =>
    refine .inr fun e1 => ?_
    have q1 := (World.ownsRow.lt h1) b e1.symm
    have q2 := (World.ownsRow.lt h2) b h
    omega
/- what holds all along -/
structure RI (w X : World) (al : Option Addr) (ln : Nat) (K N : Nat → Int) (S : Nat → ByteArray) (g : Nat) : Prop where
  bel : Below w.heap.size w X
  lt : g < X.heap.size
  lent : Lies X g 0 ln K N S
  arg : LiesA X al ln K N S
  mks : MarksAt X g ln
theorem RI.step {w X Y : World} {al : Option Addr} {ln : Nat} {K N : Nat → Int} {S : Nat → ByteArray} {g : Nat} (h : RI w X al ln K N S g) (hb : Below X.heap.size X Y) : RI w Y al ln K N S g :=
  ⟨keepBelow h.bel hb, keepSize hb h.lt, h.lent.below hb, h.arg.below hb, h.mks.below h.lt hb⟩
theorem RI.back {w X : World} {al : Option Addr} {ln lc : Nat} {K N : Nat → Int} {S : Nat → ByteArray} {g cap : Nat} (h : RI w X al ln K N S g) (hc : ln + 2 ≤ cap) (hn : (ln + 2) * 32 ≤ 140737488355328) :
    Calls Try.prog 12 #[.slice (some ⟨g, 0, none⟩) (ln + 2) cap, .slice al ln lc] X fun e w' => e = .returned (.bool true) ∧ Below X.heap.size X w' :=
  cback g ln cap al lc K N S X h.lt hc h.lent h.arg (by omega) h.mks.1 h.mks.2.1 h.mks.2.2.1 h.mks.2.2.2.1 h.mks.2.2.2.2.1 h.mks.2.2.2.2.2
set_option maxRecDepth 20000 in
set_option maxHeartbeats 2000000 in
theorem lrows (al : Option Addr) (ln lc : Nat) (K N : Nat → Int) (S : Nat → ByteArray) (s : ByteArray) (w : World) (hA : LiesA w al ln K N S) (hn : (ln + 2) * 32 ≤ 140737488355328) (hN : ∀ i, i < ln → -9223372036854775808 ≤ N i ∧ N i ≤ 9223372036854775807) (hs : s.size ≤ 140737488355328) :
    Calls Try.prog 4 #[.slice al ln lc, .string s] w fun e w' => e = .returned (.bool true) ∧ Below w.heap.size w w' := by
  have HA : Hid (LiesA w al ln K N S) := hA
  have HN : Hid (∀ i, i < ln → -9223372036854775808 ≤ N i ∧ N i ≤ 9223372036854775807) := hN
  clear hA hN
  go_enter Try.func4, Try.ntmps4
  go_wp2_with fail
  refine (clent _ _ _ K N S _ HA.out (by omega) (by omega)).mono ?_
  rintro e w1 ⟨g, cap1, rfl, lo1, hi1, cp1, L1, M1, hb1⟩
  have i1 : (0 : Int) ≤ (ln : Int) := by omega
  have i3 : (ln : Int) ≤ (cap1 : Int) := by omega
  have H1 : Hid (RI w w1 al ln K N S g) := ⟨hb1, hi1, L1, HA.out.below hb1, M1⟩
  clear L1 M1 hb1 lo1 hi1
  go_wp2_with fail
  refine (vpackD _ _ _ K N S _ (.inr ⟨g, 0, rfl, H1.out.lent⟩) HN.out).mono ?_
  rintro e w2 ⟨rfl, hb⟩
  have H2 : Hid (RI w w2 al ln K N S g) := H1.out.step hb
  clear hb H1
  go_wp2_with fail
  refine (rpack _ _ _ K N S _ H2.out.arg (by omega) HN.out).mono ?_
  rintro e w3 ⟨rfl, hb⟩
  have H3 : Hid (RI w w3 al ln K N S g) := H2.out.step hb
  clear hb H2
  generalize paS K N S ln = PS
  generalize paE K S ln = PE
  go_wp2_with fail
  refine (vunpack s _).mono ?_
  rintro e w4 ⟨h, hb⟩
  have H4 : Hid (RI w w4 al ln K N S g) := H3.out.step hb
  have hs34 := hb.size
  have hs3 := H3.out.bel.size
  clear hb H3
  have hc0 := bytN_lt s 0
  rcases h with ⟨hac, v1, rfl, ho1⟩ | ⟨hac, rfl⟩
  · have HC : Hid (acc s) := hac
    have HO1 : Hid (w4.ownsRow w.heap.size 42 3 v1 (bytN s 0) (cellsF (bytN s 0) (uK s) (uN s) (uS s))) := own_mono3 ho1 hs3
    clear ho1 hac
    go_wp2_with fail
    refine (runpack s _ (by omega)).mono ?_
    rintro e w5 ⟨h, hb⟩
    rcases h with ⟨-, v2, rfl, ho2⟩ | ⟨hno, -⟩
    · have H5 : Hid (RI w w5 al ln K N S g) := H4.out.step hb
      have HO1a : Hid (w5.ownsRow w.heap.size 42 3 v1 (bytN s 0) (cellsF (bytN s 0) (uK s) (uN s) (uS s))) := row_below HO1.out hb
      have HNE : Hid (v2.ownBlock = none ∨ v2.ownBlock ≠ v1.ownBlock) := apart2 HO1.out ho2
      have hs45 := hb.size
      have HO2 : Hid (w5.ownsRow w.heap.size 42 3 v2 (bytN s 0) (cellsF (bytN s 0) (uK s) (uN s) (uS s))) := own_mono3 ho2 (by omega)
      clear ho2 hb H4 HO1
      obtain ⟨a1, c1, rfl⟩ := owns_slice HO1a.out
      obtain ⟨a2, c2, rfl⟩ := owns_slice HO2.out
      obtain ⟨c, hcc⟩ : ∃ c, bytN s 0 = c := ⟨_, rfl⟩
      have HCC : Hid (bytN s 0 = c) := hcc
      rw [hcc] at hc0 HO1a HO2 HNE ⊢
      clear hcc
      go_wp2_with fail
      refine (lnumN _ _).mono ?_
      rintro e w' ⟨rfl, rfl⟩
      go_wp2_with fail
      refine (H5.out.back cp1 (by omega)).mono ?_
      rintro e w6 ⟨rfl, hb⟩
      have H6 : Hid (RI w w6 al ln K N S g) := H5.out.step hb
      have HO1b : Hid _ := row_below HO1a.out hb
      have HO2b : Hid _ := row_below HO2.out hb
      clear hb H5 HO1a HO2
      go_wp2_with fail
      refine (csameA _ _ _ _ _ (uK s) (uN s) (uS s) _ (lies_owned HO1b.out) (lies_owned HO2b.out) (by omega)).mono ?_
      rintro e w7 ⟨rfl, hb⟩
      have H7 : Hid (RI w w7 al ln K N S g) := H6.out.step hb
      have HO1c : Hid _ := row_below HO1b.out hb
      have HO2c : Hid _ := row_below HO2b.out hb
      clear hb H6 HO1b HO2b
      go_wp2_with fail
      refine (lnumN _ _).mono ?_
      rintro e w' ⟨rfl, rfl⟩
      go_wp2_with fail
      refine (cspoil _ _ _ _ _ HO1c.out H7.out.bel.size (by omega)).mono ?_
      rintro e w8 ⟨rfl, hbut⟩
      have HB8 : Hid (Below w.heap.size w w8) := below_appV H7.out.bel HO1c.out H7.out.bel.size hbut
      have HO2d : Hid _ := World.ownsRow.kept HO2c.out hbut HNE.out
      clear hbut H7 HO1c HO2c
      go_wp2_with fail
      refine (vunpack s _).mono ?_
      rintro e w9 ⟨h, hb⟩
      rcases h with ⟨-, v3, rfl, ho3⟩ | ⟨hno, -⟩
      · have HB9 : Hid (Below w.heap.size w w9) := HB8.out.trans (hb.mono HB8.out.size)
        have HO2e : Hid _ := row_below HO2d.out hb
        obtain ⟨a3, c3, rfl⟩ := owns_slice ho3
        have HO3 : Hid _ := ho3
        clear ho3 hb HB8 HO2d
        rw [HCC.out] at HO3
        rw [HCC.out]
        go_wp2_with fail
        refine (csameA _ _ _ _ _ (uK s) (uN s) (uS s) _ (lies_owned HO3.out) (lies_owned HO2e.out) (by omega)).mono ?_
        rintro e w10 ⟨rfl, hb⟩
        have HB10 : Hid (Below w.heap.size w w10) := HB9.out.trans (hb.mono HB9.out.size)
        clear hb
        go_wp2
        go_ret
        exact ⟨rfl, HB10.out⟩
      · exact absurd HC.out hno
    · exact absurd HC.out hno
  · have HC : Hid (¬ acc s) := hac
    clear hac
    go_wp2_with fail
    refine (runpack s _ (by omega)).mono ?_
    rintro e w5 ⟨h, hb⟩
    rcases h with ⟨hyes, -⟩ | ⟨-, rfl⟩
    · exact absurd hyes HC.out
    · have H5 : Hid (RI w w5 al ln K N S g) := H4.out.step hb
      clear hb H4
      go_wp2_with fail
      refine (lnumN _ _).mono ?_
      rintro e w' ⟨rfl, rfl⟩
      go_wp2_with fail
      refine (H5.out.back cp1 (by omega)).mono ?_
      rintro e w6 ⟨rfl, hb⟩
      have H6 : Hid (RI w w6 al ln K N S g) := H5.out.step hb
      clear hb H5
      go_wp2_with fail
      refine (csameA none 0 0 none 0 (uK s) (uN s) (uS s) _ (.inl rfl) (.inl rfl) (by omega)).mono ?_
      rintro e w7 ⟨rfl, hb⟩
      have H7 : Hid (RI w w7 al ln K N S g) := H6.out.step hb
      clear hb H6
      go_wp2_with fail
      refine (lnumN _ _).mono ?_
      rintro e w' ⟨rfl, rfl⟩
      go_wp2_with fail
      refine (cspoil 0 _ 0 [] _ (World.ownsRow_nil _ _ _ _) (Nat.zero_le _) (by omega)).mono ?_
      rintro e w8 ⟨rfl, hbut⟩
      have HB8 : Hid (Below w.heap.size w w8) := H7.out.bel.grown hbut H7.out.bel.size (fun k hk => by cases hk)
      clear hbut H7
      go_wp2_with fail
      refine (vunpack s _).mono ?_
      rintro e w9 ⟨h, hb⟩
      rcases h with ⟨hyes, -⟩ | ⟨-, rfl⟩
      · exact absurd hyes HC.out
      · have HB9 : Hid (Below w.heap.size w w9) := HB8.out.trans (hb.mono HB8.out.size)
        clear hb HB8
        go_wp2_with fail
        refine (csameA none 0 0 none 0 (uK s) (uN s) (uS s) _ (.inl rfl) (.inl rfl) (by omega)).mono ?_
        rintro e w10 ⟨rfl, hb⟩
        have HB10 : Hid (Below w.heap.size w w10) := HB9.out.trans (hb.mono HB9.out.size)
        clear hb
        go_wp2
        go_ret
        exact ⟨rfl, HB10.out⟩
end Go.Proofs.Ythimnpobcfkghaa
