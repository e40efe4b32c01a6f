/- ValueSorted: the law -/
import Derived.Test.YthimnpobcfkghaaSrt1
namespace Go.Proofs.Ythimnpobcfkghaa
open Go.RowKit Go.Lib
attribute [local go_sem ↓] Go.wp_at_zero Go.wp_at_succ
theorem cellsF_congr {K N K' N' : Nat → Int} {S S' : Nat → ByteArray} : ∀ n, (∀ i, i < n → K i = K' i ∧ N i = N' i ∧ S i = S' i) → cellsF n K N S = cellsF n K' N' S'
  | 0, _ => rfl
  | n + 1, h => by
    rw [cellsF_succ, cellsF_succ, cellsF_congr n (fun i hi => h i (by omega))]
    obtain ⟨h1, h2, h3⟩ := h n (by omega)
    unfold three
    rw [h1, h2, h3]
set_option maxRecDepth 20000 in
set_option maxHeartbeats 2000000 in
theorem csorted (al : Option Addr) (ln lc : Nat) (am : Option Addr) (mn mc : Nat) (K N : Nat → Int) (S : Nat → ByteArray) (K' N' : Nat → Int) (S' : Nat → ByteArray) (w : World) (hA : LiesA w al ln K N S) (hB : LiesA w am mn K' N' S')
    (hn : ln ≤ 1048576) (hl : lenS S ln ≤ 1048576) (hm : mn ≤ 1048576) (hl' : lenS S' mn ≤ 1048576) (hN : ∀ i, i < ln → -9223372036854775808 ≤ N i ∧ N i ≤ 9223372036854775807) (hN' : ∀ i, i < mn → -9223372036854775808 ≤ N' i ∧ N' i ≤ 9223372036854775807) :
    Calls Try.prog 5 #[.slice al ln lc, .slice am mn mc] w fun e w' => e = .returned (.bool true) ∧ Below w.heap.size w w' := by
  have HA : Hid (LiesA w al ln K N S) := hA
  have HBb : Hid (LiesA w am mn K' N' S') := hB
  have HN : Hid (∀ i, i < ln → -9223372036854775808 ≤ N i ∧ N i ≤ 9223372036854775807) := hN
  have HSO : Hid (signI (Op.bytesLess (⟨(kyL K N S ln).toArray⟩ : ByteArray).toList (⟨(kyL K' N' S' mn).toArray⟩ : ByteArray).toList) (!Op.bytesLess (⟨(kyL K N S ln).toArray⟩ : ByteArray).toList (⟨(kyL K' N' S' mn).toArray⟩ : ByteArray).toList && !((⟨(kyL K N S ln).toArray⟩ : ByteArray).toList == (⟨(kyL K' N' S' mn).toArray⟩ : ByteArray).toList)) = ordL (fun i => ordV (K i) (N i) (S i) (K' i) (N' i) (S' i)) ln mn) := by
    show signI _ _ = _
    rw [sign_B]
    show cmpB (kyL K N S ln) (kyL K' N' S' mn) = _
    rw [sorted0 hN hN']
    congr 1
    funext i
    exact (ordV_B _ _ _ _ _ _).symm
  have HK1 : Hid (isKey ⟨(kyL K N S ln).toArray⟩ ln) := key_is hN
  have HK2 : Hid (cellsF ln (yK ⟨(kyL K N S ln).toArray⟩) (yN ⟨(kyL K N S ln).toArray⟩) (yS ⟨(kyL K N S ln).toArray⟩) = cellsF ln (fun i => ck (K i)) (fun i => cn (K i) (N i)) (fun i => cs (K i) (S i))) := cellsF_congr ln (fun i hi => key_vals hN hi)
  have hsz : (⟨(kyL K N S ln).toArray⟩ : ByteArray).size ≤ 1099511000000 := by
    have := kyL_len K N S ln
    rw [size_mkN]; omega
  have HV : Hid (ordV 2 (-1) ⟨#[]⟩ 2 1 ⟨#[]⟩ = -1) := (by decide : ordV 2 (-1) ⟨#[]⟩ 2 1 ⟨#[]⟩ = -1)
  clear hA hB hN hN'
  go_enter Try.func5, Try.ntmps5
  go_wp2_with fail
  refine (vkey _ _ _ K N S _ HA.out (by omega)).mono ?_
  rintro e w1 ⟨rfl, hb⟩
  have HB1 : Hid (Below w.heap.size w w1) := hb
  clear hb
  go_wp2_with fail
  refine (vkey _ _ _ K' N' S' _ (HBb.out.below HB1.out) (by omega)).mono ?_
  rintro e w2 ⟨rfl, hb⟩
  have HB2 : Hid (Below w.heap.size w w2) := HB1.out.trans (hb.mono HB1.out.size)
  clear hb HB1
  generalize (⟨(kyL K' N' S' mn).toArray⟩ : ByteArray) = B at *
  generalize (⟨(kyL K N S ln).toArray⟩ : ByteArray) = A at *
  go_wp2_with fail
  refine (ksign _ _ _).mono ?_
  rintro e w' ⟨rfl, rfl⟩
  rw [HSO.out]
  go_wp2_with fail
  refine (vrowsA _ _ _ _ _ _ K N S K' N' S' _ (HA.out.below HB2.out) (HBb.out.below HB2.out) (by omega) (by omega)).mono ?_
  rintro e w3 ⟨rfl, hb⟩
  have HB3 : Hid (Below w.heap.size w w3) := HB2.out.trans (hb.mono HB2.out.size)
  clear hb HB2
  generalize ordL (fun i => ordV (K i) (N i) (S i) (K' i) (N' i) (S' i)) ln mn = O
  go_wp2_with fail
  refine (vorder 2 (-1) ⟨#[]⟩ 2 1 ⟨#[]⟩ _).mono ?_
  rintro e w4 ⟨rfl, hb⟩
  have HB4 : Hid (Below w.heap.size w w4) := HB3.out.trans (hb.mono HB3.out.size)
  clear hb HB3
  rw [HV.out]
  go_wp2_with fail
  refine (vunkey A _ hsz).mono ?_
  rintro e w5 ⟨h, hb⟩
  have HB5 : Hid (Below w.heap.size w w5) := HB4.out.trans (hb.mono HB4.out.size)
  clear hb
  rcases h with ⟨c, v1, hk, rfl, ho1⟩ | ⟨hno, -⟩
  · obtain rfl := isKey_one HK1.out hk
    rw [HK2.out] at ho1
    have HO1 : Hid _ := ho1
    clear ho1 hk
    obtain ⟨a1, c1, rfl⟩ := owns_slice HO1.out
    go_wp2_with fail
    refine (kclean _ _ _ K N S _ (HA.out.below HB5.out) hn).mono ?_
    rintro e w6 ⟨v2, rfl, ho2, hb⟩
    have HB6 : Hid (Below w.heap.size w w6) := HB5.out.trans (hb.mono HB5.out.size)
    have HO1a : Hid _ := row_below HO1.out hb
    obtain ⟨a2, c2, rfl⟩ := owns_slice ho2
    have HO2 : Hid _ := ho2
    clear ho2 hb HO1
    go_wp2_with fail
    refine (ksame _ _ _ _ _ _ _ _ _ (lies_owned HO1a.out) (lies_owned HO2.out) (by omega)).mono ?_
    rintro e w7 ⟨rfl, hb⟩
    have HB7 : Hid (Below w.heap.size w w7) := HB6.out.trans (hb.mono HB6.out.size)
    clear hb HO1a HO2
    go_wp2_with fail
    refine (vpackD _ _ _ K N S _ (HA.out.below HB7.out) HN.out).mono ?_
    rintro e w8 ⟨rfl, hb⟩
    have HB8 : Hid (Below w.heap.size w w8) := HB7.out.trans (hb.mono HB7.out.size)
    clear hb
    by_cases hf : ln ≤ 64 ∧ fit K S ln
    · have e1 : paE K S ln = 0 := by unfold paE; rw [if_pos hf]
      have e2 : paS K N S ln = ⟨(UInt8.ofNat ln :: pkL K N S ln).toArray⟩ := by unfold paS; rw [if_pos hf]
      rw [e1, e2]
      have HAC : Hid (acc ⟨(UInt8.ofNat ln :: pkL K N S ln).toArray⟩) := row_acc HN.out hf.2 hf.1
      have HR1 : Hid (bytN ⟨(UInt8.ofNat ln :: pkL K N S ln).toArray⟩ 0 = ln) := row_first _ hf.1
      have HR2 : Hid (cellsF ln (uK ⟨(UInt8.ofNat ln :: pkL K N S ln).toArray⟩) (uN ⟨(UInt8.ofNat ln :: pkL K N S ln).toArray⟩) (uS ⟨(UInt8.ofNat ln :: pkL K N S ln).toArray⟩) = cellsF ln (fun i => ck (K i)) (fun i => cn (K i) (N i)) (fun i => cs (K i) (S i))) := cellsF_congr ln (fun i hi => row_vals HN.out hf.2 hi)
      clear e1 e2
      generalize (⟨(UInt8.ofNat ln :: pkL K N S ln).toArray⟩ : ByteArray) = P at *
      go_wp2_with fail
      refine (vunpack P _).mono ?_
      rintro e w9 ⟨h, hb⟩
      have HB9 : Hid (Below w.heap.size w w9) := HB8.out.trans (hb.mono HB8.out.size)
      clear hb
      rcases h with ⟨-, v3, rfl, ho3⟩ | ⟨hno, -⟩
      · rw [HR1.out, HR2.out] at ho3
        obtain ⟨a3, c3, rfl⟩ := owns_slice ho3
        have HO3 : Hid _ := ho3
        clear ho3
        go_wp2_with fail
        refine (kclean _ _ _ K N S _ (HA.out.below HB9.out) hn).mono ?_
        rintro e w10 ⟨v4, rfl, ho4, hb⟩
        have HB10 : Hid (Below w.heap.size w w10) := HB9.out.trans (hb.mono HB9.out.size)
        have HO3a : Hid _ := row_below HO3.out hb
        obtain ⟨a4, c4, rfl⟩ := owns_slice ho4
        have HO4 : Hid _ := ho4
        clear ho4 hb HO3
        go_wp2_with fail
        refine (ksame _ _ _ _ _ _ _ _ _ (lies_owned HO3a.out) (lies_owned HO4.out) (by omega)).mono ?_
        rintro e w11 ⟨rfl, hb⟩
        have HB11 : Hid (Below w.heap.size w w11) := HB10.out.trans (hb.mono HB10.out.size)
        clear hb
        go_wp2
        go_ret
        exact ⟨rfl, HB11.out⟩
      · exact absurd HAC.out hno
    · have e1 : paE K S ln = 8 := by unfold paE; rw [if_neg hf]
      have e2 : paS K N S ln = ⟨#[]⟩ := by unfold paS; rw [if_neg hf]
      rw [e1, e2]
      clear e1 e2
      go_wp2
      go_ret
      exact ⟨rfl, HB8.out⟩
  · exact absurd ⟨_, HK1.out⟩ hno
end Go.Proofs.Ythimnpobcfkghaa
