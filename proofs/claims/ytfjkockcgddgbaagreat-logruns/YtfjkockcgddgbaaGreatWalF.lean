/- package wal: settle, Checkpoint -/
import Derived.Test.YtfjkockcgddgbaaGreatWalE
namespace Go.Proofs.YtfjkockcgddgbaaGreat
open Go.RowKit Go.Lib Go.Maps Go.Sort Go.Shelf
attribute [local go_sem ↓] Go.wp_at_zero Go.wp_at_succ
/- the pages of these numbers come to their places -/
def stlK (L : LS) : List Int → DS → Int × DS
  | [], S => (0, S)
  | n :: r, S => if (L.last.pages : Int) ≤ n then (0, S) else if ¬ (rdF S ((L.pl n).getD 0)).2 = 0 then ((rdF S ((L.pl n).getD 0)).2, S) else if ¬ (opD S 0 (1024 * n) (rdF S ((L.pl n).getD 0)).1 false).1 = 0 then opD S 0 (1024 * n) (rdF S ((L.pl n).getD 0)).1 false else stlK L r (opD S 0 (1024 * n) (rdF S ((L.pl n).getD 0)).1 false).2
def stlL (L : LS) (S : DS) (ks : List Int) : Int × DS :=
  if ¬ (stlK L ks S).1 = 0 then stlK L ks S else if ¬ (opD (stlK L ks S).2 0 (1024 * (L.last.pages : Int)) ⟨#[]⟩ true).1 = 0 then opD (stlK L ks S).2 0 (1024 * (L.last.pages : Int)) ⟨#[]⟩ true else synD (opD (stlK L ks S).2 0 (1024 * (L.last.pages : Int)) ⟨#[]⟩ true).2 0
structure KeysOf (F : Int → Option Int) (ks : List Int) : Prop where
  sorted : ks.Pairwise (· < ·)
  mem : ∀ x, x ∈ ks ↔ i64 x ∧ (F x).isSome = true
theorem stl_end {L : LS} {S T T1 T2 : DS} {ks : List Int} {r1 r2 : Int} (hz : stlK L ks S = (0, T)) (h1 : opD T 0 (1024 * (L.last.pages : Int)) ⟨#[]⟩ true = (r1, T1)) (h2 : synD T1 0 = (r2, T2)) : stlL L S ks = if r1 = 0 then (r2, T2) else (r1, T1) := by
  unfold stlL
  rw [hz, if_neg (fun h => h rfl)]
  show (if ¬ (opD T 0 (1024 * (L.last.pages : Int)) ⟨#[]⟩ true).1 = 0 then _ else _) = _
  rw [h1]
  by_cases e : r1 = 0
  · rw [if_neg (fun h => h e), if_pos e]
    exact h2
  · rw [if_pos e, if_neg e]
/- a list of numbers at rest in a block of its own -/
def RowI (W : World) (a : Option Addr) (ks : List Int) : Prop := ks = [] ∨ ∃ g cur, a = some ⟨g, 0, none⟩ ∧ W.heap[g]? = some (.cells cur 3 (0, 0)) ∧ ∀ i (h : i < ks.length), cur[i]? = some (.int .i64 ks[i])
theorem row_ints {W : World} {base : Nat} {v : Value} {ks : List Int} (h : W.ownsRow base 3 1 v ks.length (ks.map encZ)) : ∃ a cap, v = .slice a ks.length cap ∧ RowI W a ks := by
  rcases h.2 with ⟨rfl, h0⟩ | ⟨g, cap, cur, rfl, h1, h2, h3, h4, h5, h6⟩
  · have hl : ks.length = 0 := by
      first | exact h0 | (have := h0; omega)
    have : ks = [] := List.eq_nil_of_length_eq_zero hl
    subst this
    exact ⟨none, 0, rfl, .inl rfl⟩
  · refine ⟨_, _, rfl, .inr ⟨g, cur, rfl, h2, fun i hi => ?_⟩⟩
    have e : (cur.toList.take (ks.length * 1))[i]? = (ks.map encZ)[i]? := by rw [h6]
    rw [List.getElem?_take, if_pos (by omega), List.getElem?_map, List.getElem?_eq_getElem hi] at e
    rw [← Array.getElem?_toList, e]
    rfl
theorem RowI.keep {W Y : World} {a : Option Addr} {ks : List Int} {B : Nat} (h : RowI W a ks) (hb : BelT tyP B W Y) : RowI Y a ks := by
  rcases h with h | ⟨g, cur, e, hg, hc⟩
  · exact .inl h
  · exact .inr ⟨g, cur, e, (hb.far g (Array.getElem?_eq_some_iff.1 hg).1 (far_of hg (by decide))).trans hg, hc⟩
theorem keys_of {X : World} {b n : Nat} {DP : DataW Unit} {F : Int → Option Int} {ss : List Int} (hown : X.ownsMap Tryz.prog 3 (plainElem Tryz.prog 3) b n DP) (hp : ss.Perm (intKeys DP)) (hK : ∀ x, i64 x → (Maps.has DP (.int .i64 x) = (F x).isSome ∧ ∀ v, F x = some v → ∀ z, DP.atKey (.int .i64 x) z = .lit (.int .i64 v))) : KeysOf F (ss.mergeSort (fun x y => decide (x ≤ y))) := by
  have hwf := intKeys_wf hown Tryz.underlying3
  obtain ⟨es, hD, hne, -⟩ := hown.entries lawI
  obtain ⟨es', hD', hko⟩ := hown.keysOf
  obtain rfl : es = es' := by rw [hD] at hD'; simpa using hD'
  subst hD
  have hint : ∀ p ∈ es, ∃ x, p.1 = .int .i64 x := fun p hp => by
    obtain ⟨v, hv⟩ := hko p hp
    obtain ⟨x, _, hx, _⟩ := Maps.keyOf_i64 Tryz.underlying3 hv
    exact ⟨x, hx⟩
  have hnd : (intKeys (DataW.map es)).Nodup := by
    show (es.map fun p => _).Nodup
    refine List.pairwise_map.2 (hne.imp_of_mem fun {p q} hp' hq' hn e => hn ?_)
    obtain ⟨a, ha⟩ := hint p hp'
    obtain ⟨b, hb⟩ := hint q hq'
    rw [ha, hb] at e ⊢
    exact congrArg _ e
  have hmem : ∀ x, x ∈ intKeys (DataW.map es) ↔ has (DataW.map es) (.int .i64 x) = true := fun x => by
    rw [has_eq, List.any_eq_true]
    show x ∈ es.map _ ↔ _
    rw [List.mem_map]
    constructor
    · rintro ⟨p, hp', rfl⟩
      obtain ⟨a, ha⟩ := hint p hp'
      refine ⟨p, hp', ?_⟩
      rw [ha]
      simp [Lit.sameKey]
      rfl
    · rintro ⟨p, hp', hs⟩
      obtain ⟨a, ha⟩ := hint p hp'
      rw [ha] at hs
      refine ⟨p, hp', ?_⟩
      rw [ha]
      have e : a = x := by simpa [Lit.sameKey] using hs
      exact e
  have hms := List.mergeSort_perm ss (fun x y => decide (x ≤ y))
  refine ⟨?_, fun x => ?_⟩
  · have h1 : (ss.mergeSort (fun x y => decide (x ≤ y))).Pairwise (fun a b => decide (a ≤ b) = true) := List.pairwise_mergeSort (fun a b c h1 h2 => by simp only [decide_eq_true_eq] at *; omega) (fun a b => by simp only [Bool.or_eq_true, decide_eq_true_eq]; omega) ss
    have h2 : (ss.mergeSort (fun x y => decide (x ≤ y))).Nodup := (hms.trans hp).nodup_iff.2 hnd
    refine (h1.and h2).imp (fun {a b} h => ?_)
    have := of_decide_eq_true h.1
    have := h.2
    omega
  · rw [(hms.trans hp).mem_iff]
    constructor
    · intro hx
      have hw : i64 x := hwf x hx
      exact ⟨hw, by rw [← (hK x hw).1]; exact (hmem x).1 hx⟩
    · rintro ⟨hw, hs⟩
      exact (hmem x).2 (by rw [(hK x hw).1]; exact hs)
set_option maxRecDepth 20000 in
set_option maxHeartbeats 1000000 in
theorem csettle (X : World) (B D G bp bf m k : Nat) (L : LS) (S : DS) (h : PL X B D G bp bf m L S) (hB : B ≤ X.heap.size) (hm : m ≤ 100000) (ho : okS S k) (hk : k ≤ 100000) (hp : okM L.pl) (hpos : ∀ x, (L.pl x).isSome = true → 0 ≤ x) (hc : okCm L.last) :
    Calls Tryz.prog 66 #[(.pointer (some ⟨G, 0, none⟩))] X fun e w' => ∃ ks, KeysOf L.pl ks ∧ ks.length ≤ m ∧ e = .returned (.int .i64 (stlL L S ks).1) ∧ PL w' B D G bp bf m L (stlL L S ks).2 ∧ BelL G bp bf B X w' := by
  obtain ⟨c0, c1, c2, c3, c4, c5, c6, c7⟩ := h.cells
  obtain ⟨DP, hown, HK⟩ := h.mp
  have HKK : Hid _ := HK
  have HP : Hid (PL X B D G bp bf m L S) := h
  have HB0 : Hid (B ≤ X.heap.size) := hB
  have hsz := hown.size_le
  clear HK h
  go_enter Tryz.func66, Tryz.ntmps66
  go_wp2_with fail
  refine (ckeys (some bp) _).mono ?_
  rintro e w1 ⟨rfl, hw1⟩
  rw [hw1]
  clear hw1
  go_wp2_with fail
  refine (csorted X bp m DP _ hown (by unfold maxLen; omega) (by omega)).mono ?_
  rintro e w2 ⟨v, ss, rfl, hperm, hrow, hnil, hb2⟩
  obtain ⟨ks, hks⟩ : ∃ ks, ks = ss.mergeSort (fun x y => decide (x ≤ y)) := ⟨_, rfl⟩
  have hlen : ss.length = ks.length := by rw [hks, List.length_mergeSort]
  rw [← hks, hlen] at hrow
  have HKS : Hid (KeysOf L.pl ks) := by
    rw [hks]
    exact keys_of hown hperm HKK.out
  have hkl : ks.length ≤ m := by
    have e1 : (intKeys DP).length = Maps.size DP := by
      obtain ⟨es, rfl⟩ := hown.isMap
      simp [intKeys, Maps.size]
    rw [← hlen, hperm.length_eq, e1]
    exact hsz
  obtain ⟨a, cap, rfl, hR⟩ := row_ints hrow
  have HR : Hid (RowI w2 a ks) := hR
  have HX2 : Hid (Below X.heap.size X w2) := keepBelow ((Below.refl _ _).alloc (Nat.le_refl _) _) (by simpa using hb2)
  clear hperm hrow hnil hb2 hR hks hlen
  have HC : Hid _ := hc
  have HPM : Hid _ := hp
  have HPO : Hid _ := hpos
  have pb := hc.pages
  clear hc hp hpos c0 c1 c2 c3 c4 c5 c6 c7
  have HF2 : Hid (BelL G bp bf B X w2) := below_log HX2.out HB0.out G bp bf
  have HL2 : Hid (PL w2 B D G bp bf m L S) := HP.out.below HX2.out
  go_wp2_with fail
  go_loopw [16] (fun u Y => ∃ (i : Nat) (T : DS), u = .int .i64 i ∧ i ≤ ks.length ∧ Hid (PL Y B D G bp bf m L T) ∧ Hid (stlK L ks S = stlK L (ks.drop i) T) ∧ Hid (okS T (k + i)) ∧ Hid (RowI Y a ks) ∧ Hid (BelL G bp bf B X Y)) (fun u _ => ks.length - (intOf u).toNat)
  case atStart => exact ⟨0, S, rfl, Nat.zero_le _, HL2, rfl, ho, HR, HF2⟩
  case round =>
    clear HR HF2 HL2
    obtain ⟨i, T, rfl, hi, HL, HE0, HOK, HR, HF⟩ := hrel
    obtain ⟨c0, c1, c2, c3, c4, c5, c6, c7⟩ := HL.out.cells
    by_cases hlt : i < ks.length
    · have k1 : (i : Int) < (ks.length : Int) := by omega
      rcases HR.out with hnil | ⟨g, cur, ha, hg, hcur⟩
      · rw [hnil] at hlt; cases hlt
      have HRR : Hid (RowI wr a ks) := HR.out
      subst ha
      have hcell : wr.cell? ⟨g, i, none⟩ = some (.int .i64 (ks[i]'hlt)) := by simp [World.cell?, hg, hcur i hlt]
      have hgl := (Array.getElem?_eq_some_iff.1 hg).1
      have hmem := (HKS.out.mem (ks[i]'hlt)).1 (List.getElem_mem hlt)
      have hdrop : ks.drop i = (ks[i]'hlt) :: ks.drop (i + 1) := List.drop_eq_getElem_cons hlt
      obtain ⟨nn, hnn⟩ : ∃ nn, nn = ks[i]'hlt := ⟨_, rfl⟩
      rw [← hnn] at hcell hmem hdrop
      have HD : Hid _ := hdrop
      have n0 : 0 ≤ nn := HPO.out nn hmem.2
      have kp := HL.out.mp.look1 hmem.1
      clear hg hcur hdrop hnn
      by_cases hpg : (L.last.pages : Int) ≤ nn
      · have HZ : Hid (stlK L ks S = (0, T)) := by
          show stlK L ks S = (0, T)
          rw [HE0.out, HD.out]
          exact if_pos hpg
        obtain ⟨r1, T1, hr1⟩ : ∃ r1 T1, opD T 0 (1024 * (L.last.pages : Int)) ⟨#[]⟩ true = (r1, T1) := ⟨_, _, rfl⟩
        obtain ⟨r2, T2, hr2⟩ : ∃ r2 T2, synD T1 0 = (r2, T2) := ⟨_, _, rfl⟩
        have HE : Hid (stlL L S ks = if r1 = 0 then (r2, T2) else (r1, T1)) := stl_end HZ.out hr1 hr2
        have O1 : Hid (okS T1 (k + i + 1)) := by
          have := opD_ok HOK.out 0 (1024 * (L.last.pages : Int)) ⟨#[]⟩ true
          rw [hr1] at this
          exact this
        have H1 : Hid _ := hr1
        have H2 : Hid _ := hr2
        clear hr1 hr2
        have HW : Hid (BelL G bp bf B X wr ∧ B ≤ wr.heap.size ∧ k + i ≤ 900000) := (⟨HF.out, Nat.le_trans HB0.out HF.out.size, by omega⟩ : BelL G bp bf B X wr ∧ B ≤ wr.heap.size ∧ k + i ≤ 900000)
        have hw1 : IntKind.i64.wrap (1024 * (L.last.pages : Int)) = 1024 * (L.last.pages : Int) := by rw [IntKind.wrap_i64]; omega
        go_wp2_with fail
        go_region_with (first | (go_at_call 87; refine (ccutD 0 (1024 * (L.last.pages : Int)) _ B D T (k + i) (HL.out.dsk.below ((Below.refl _ _).drew)) HW.out.2.1 HOK.out (by have := HW.out.2.2; omega)).mono ?_; rw [H1.out]; rintro e w5 ⟨rfl, hp5, hb5⟩))
        all_goals
          have HL5 : Hid (PL w5 B D G bp bf m L T1) := (HL.out.below ((Below.refl _ _).drew)).disk hb5 hp5
          have HF5 : Hid (BelL G bp bf B X w5) := HW.out.1.trans ((below_log ((Below.refl _ _).drew) HW.out.2.1 G bp bf).trans (hb5.log G bp bf))
          clear hp5 hb5 c0 c1 c2 c3 c4 c5 c6 c7
          obtain ⟨c0, c1, c2, c3, c4, c5, c6, c7⟩ := HL5.out.cells
          by_cases hr : r1 = 0
          · subst hr
            go_wp2_with fail
            refine (csyncD 0 _ B D T1 (k + i + 1) HL5.out.dsk (Nat.le_trans HB0.out HF5.out.size) O1.out (by have := HW.out.2.2; omega)).mono ?_
            rw [H2.out]
            rintro e w6 ⟨rfl, hp6, hb6⟩
            have HL6 : Hid (PL w6 B D G bp bf m L T2) := HL5.out.disk hb6 hp6
            have HF6 : Hid (BelL G bp bf B X w6) := HF5.out.trans (hb6.log G bp bf)
            clear hp6 hb6
            go_wp2
            go_ret
            exact ⟨ks, HKS.out, hkl, by rw [HE.out]; rfl, by rw [HE.out]; exact HL6.out, HF6.out⟩
          · have hr' : (r1 == 0) = false := by simpa using hr
            have HR1 : Hid (¬ r1 = 0) := hr
            go_wp2
            go_ret
            exact ⟨ks, HKS.out, hkl, by rw [HE.out, if_neg HR1.out]; rfl, by rw [HE.out, if_neg HR1.out]; exact HL5.out, HF5.out⟩
      · have hpg' : decide ((L.last.pages : Int) ≤ nn) = false := decide_eq_false hpg
        have hpg2 : nn < (L.last.pages : Int) := by omega
        obtain ⟨v, hv⟩ : ∃ v, v = (L.pl nn).getD 0 := ⟨_, rfl⟩
        have hvb : 0 ≤ v ∧ v ≤ 1000000 := by
          cases hq : L.pl nn with
          | none => rw [hq] at hv; rw [hv]; decide
          | some u => rw [hq] at hv; rw [hv]; exact HPM.out nn u hq
        rw [← hv] at kp
        obtain ⟨q, r0, hq⟩ : ∃ q r0, rdF T v = (q, r0) := ⟨_, _, rfl⟩
        have HCF : Hid (∀ W, PL W B D G bp bf m L T → Calls Tryz.prog 53 #[(.pointer (some ⟨G, 0, none⟩)), .int .i64 v] W fun e w' => e = .returned (.tuple #[.string q, .int .i64 r0]) ∧ Below W.heap.size W w') := fun W hW => by
          have := cframed v W B D G bp bf m L T hW hvb.1 hvb.2
          have e1 : rdS 1 (64 + 1028 * v + 4) 1024 T.lb T.down = q := congrArg Prod.fst hq
          have e2 : rdE 1 (64 + 1028 * v + 4) 1024 T.lb T.down = r0 := congrArg Prod.snd hq
          rw [e1, e2] at this
          exact this
        obtain ⟨r1, T1, hr1⟩ : ∃ r1 T1, opD T 0 (1024 * nn) q false = (r1, T1) := ⟨_, _, rfl⟩
        have HST : Hid (stlK L ks S = if ¬ r0 = 0 then (r0, T) else if ¬ r1 = 0 then (r1, T1) else stlK L (ks.drop (i + 1)) T1) := by
          show stlK L ks S = _
          rw [HE0.out, HD.out]
          show (if (L.last.pages : Int) ≤ nn then _ else _) = _
          rw [if_neg hpg, ← hv, hq]
          show (if ¬ r0 = 0 then _ else if ¬ (opD T 0 (1024 * nn) q false).1 = 0 then _ else _) = _
          rw [hr1]
        have O1 : Hid (okS T1 (k + (i + 1))) := by
          have := opD_ok HOK.out 0 (1024 * nn) q false
          rw [hr1] at this
          exact this
        have H1 : Hid _ := hr1
        have HW : Hid (BelL G bp bf B X wr ∧ B ≤ wr.heap.size ∧ k + i ≤ 900000) := (⟨HF.out, Nat.le_trans HB0.out HF.out.size, by omega⟩ : BelL G bp bf B X wr ∧ B ≤ wr.heap.size ∧ k + i ≤ 900000)
        have hw1 : IntKind.i64.wrap (1024 * nn) = 1024 * nn := by rw [IntKind.wrap_i64]; omega
        clear hr1 hq hv hmem hvb
        go_wp2_with fail
        refine (HCF.out _ HL.out).mono ?_
        rintro e w3 ⟨rfl, hb3⟩
        have HL3 : Hid (PL w3 B D G bp bf m L T) := HL.out.below hb3
        have HF3 : Hid (BelL G bp bf B X w3 ∧ B ≤ w3.heap.size) := (⟨HW.out.1.trans (below_log hb3 HW.out.2.1 G bp bf), Nat.le_trans HW.out.2.1 hb3.size⟩ : BelL G bp bf B X w3 ∧ B ≤ w3.heap.size)
        have HR3 : Hid (RowI w3 (some ⟨g, 0, none⟩) ks) := HRR.out.keep (belowT hb3 (Nat.le_refl _))
        clear hb3 c0 c1 c2 c3 c4 c5 c6 c7 hcell hgl kp HRR HR
        obtain ⟨c0, c1, c2, c3, c4, c5, c6, c7⟩ := HL3.out.cells
        clear c1 c2 c3 c4 c5 c6 c7
        by_cases hr0 : r0 = 0
        · subst hr0
          go_wp2_with fail
          refine (cwriteD 0 (1024 * nn) q _ B D T (k + i) HL3.out.dsk HF3.out.2 HOK.out (by have := HW.out.2.2; omega)).mono ?_
          rw [H1.out]
          rintro e w5 ⟨rfl, hp5, hb5⟩
          have HL5 : Hid (PL w5 B D G bp bf m L T1) := HL3.out.disk hb5 hp5
          have HF5 : Hid (BelL G bp bf B X w5) := HF3.out.1.trans (hb5.log G bp bf)
          have HR5 : Hid (RowI w5 (some ⟨g, 0, none⟩) ks) := HR3.out.keep hb5
          clear hp5 hb5 c0
          by_cases hr : r1 = 0
          · subst hr
            go_wp2
            go_roundw
            case rel => exact ⟨i + 1, T1, by go_num, by omega, HL5, by show stlK L ks S = _; rw [HST.out]; rfl, O1, HR5, HF5⟩
            case measure => simp [intOf]; omega
          · have hr' : (r1 == 0) = false := by simpa using hr
            have HS1 : Hid (stlL L S ks = (r1, T1)) := by
              show stlL L S ks = _
              have e : stlK L ks S = (r1, T1) := by rw [HST.out]; simp [hr]
              unfold stlL
              rw [e, if_pos hr]
            go_wp2
            go_ret
            exact ⟨ks, HKS.out, hkl, by rw [HS1.out]; rfl, by rw [HS1.out]; exact HL5.out, HF5.out⟩
        · have hr' : (r0 == 0) = false := by simpa using hr0
          have HS1 : Hid (stlL L S ks = (r0, T)) := by
            show stlL L S ks = _
            have e : stlK L ks S = (r0, T) := by rw [HST.out, if_pos hr0]
            unfold stlL
            rw [e, if_pos hr0]
          go_wp2
          go_ret
          exact ⟨ks, HKS.out, hkl, by rw [HS1.out]; rfl, by rw [HS1.out]; exact HL3.out, HF3.out.1⟩
    · have k1 : ¬ (i : Int) < (ks.length : Int) := by omega
      have HZ : Hid (stlK L ks S = (0, T)) := by
        show stlK L ks S = (0, T)
        rw [HE0.out, List.drop_eq_nil_of_le (by omega)]
        rfl
      obtain ⟨r1, T1, hr1⟩ : ∃ r1 T1, opD T 0 (1024 * (L.last.pages : Int)) ⟨#[]⟩ true = (r1, T1) := ⟨_, _, rfl⟩
      obtain ⟨r2, T2, hr2⟩ : ∃ r2 T2, synD T1 0 = (r2, T2) := ⟨_, _, rfl⟩
      have HE : Hid (stlL L S ks = if r1 = 0 then (r2, T2) else (r1, T1)) := stl_end HZ.out hr1 hr2
      have O1 : Hid (okS T1 (k + i + 1)) := by
        have := opD_ok HOK.out 0 (1024 * (L.last.pages : Int)) ⟨#[]⟩ true
        rw [hr1] at this
        exact this
      have H1 : Hid _ := hr1
      have H2 : Hid _ := hr2
      clear hr1 hr2
      have HW : Hid (BelL G bp bf B X wr ∧ B ≤ wr.heap.size ∧ k + i ≤ 900000) := (⟨HF.out, Nat.le_trans HB0.out HF.out.size, by omega⟩ : BelL G bp bf B X wr ∧ B ≤ wr.heap.size ∧ k + i ≤ 900000)
      have hw1 : IntKind.i64.wrap (1024 * (L.last.pages : Int)) = 1024 * (L.last.pages : Int) := by rw [IntKind.wrap_i64]; omega
      go_wp2_with fail
      go_region_with (first | (go_at_call 87; refine (ccutD 0 (1024 * (L.last.pages : Int)) _ B D T (k + i) (HL.out.dsk.below ((Below.refl _ _).drew)) HW.out.2.1 HOK.out (by have := HW.out.2.2; omega)).mono ?_; rw [H1.out]; rintro e w5 ⟨rfl, hp5, hb5⟩))
      all_goals
        have HL5 : Hid (PL w5 B D G bp bf m L T1) := (HL.out.below ((Below.refl _ _).drew)).disk hb5 hp5
        have HF5 : Hid (BelL G bp bf B X w5) := HW.out.1.trans ((below_log ((Below.refl _ _).drew) HW.out.2.1 G bp bf).trans (hb5.log G bp bf))
        clear hp5 hb5 c0 c1 c2 c3 c4 c5 c6 c7
        obtain ⟨c0, c1, c2, c3, c4, c5, c6, c7⟩ := HL5.out.cells
        by_cases hr : r1 = 0
        · subst hr
          go_wp2_with fail
          refine (csyncD 0 _ B D T1 (k + i + 1) HL5.out.dsk (Nat.le_trans HB0.out HF5.out.size) O1.out (by have := HW.out.2.2; omega)).mono ?_
          rw [H2.out]
          rintro e w6 ⟨rfl, hp6, hb6⟩
          have HL6 : Hid (PL w6 B D G bp bf m L T2) := HL5.out.disk hb6 hp6
          have HF6 : Hid (BelL G bp bf B X w6) := HF5.out.trans (hb6.log G bp bf)
          clear hp6 hb6
          go_wp2
          go_ret
          exact ⟨ks, HKS.out, hkl, by rw [HE.out]; rfl, by rw [HE.out]; exact HL6.out, HF6.out⟩
        · have hr' : (r1 == 0) = false := by simpa using hr
          have HR1 : Hid (¬ r1 = 0) := hr
          go_wp2
          go_ret
          exact ⟨ks, HKS.out, hkl, by rw [HE.out, if_neg HR1.out]; rfl, by rw [HE.out, if_neg HR1.out]; exact HL5.out, HF5.out⟩
end Go.Proofs.YtfjkockcgddgbaaGreat
