/- relstoreref: Checkpoint -/
import Derived.Test.YtfjkockcgddgbaaGreatLrG
import Derived.Test.YtfjkockcgddgbaaGreatWalG
import Derived.Deep.CutBlock
namespace Go.Proofs.YtfjkockcgddgbaaGreat
open Go.RowKit Go.Lib
attribute [local go_sem ↓] Go.wp_at_zero Go.wp_at_succ
/- the keys from n on, sorted -/
structure KF (F : Int → Option Int) (n : Int) (ks : List Int) : Prop where
  sorted : ks.Pairwise (· < ·)
  mem : ∀ x, x ∈ ks ↔ n ≤ x ∧ i64 x ∧ (F x).isSome = true
theorem KF.hit {F : Int → Option Int} {n : Int} {ks : List Int} (h : KF F n ks) (hn : i64 n) (hF : (F n).isSome = true) : ∃ r, ks = n :: r ∧ KF F (n + 1) r := by
  have hm := (h.mem n).2 ⟨Int.le_refl _, hn, hF⟩
  cases ks with
  | nil => cases hm
  | cons x r =>
    have hp := List.pairwise_cons.1 h.sorted
    have hx := ((h.mem x).1 (List.mem_cons_self ..)).1
    have e : x = n := by
      rcases List.mem_cons.1 hm with e | e
      · exact e.symm
      · have := hp.1 n e
        omega
    subst e
    refine ⟨r, rfl, hp.2, fun y => ⟨fun hy => ?_, fun hy => ?_⟩⟩
    · have h1 := hp.1 y hy
      have h2 := (h.mem y).1 (List.mem_cons_of_mem _ hy)
      exact ⟨by omega, h2.2⟩
    · have := (h.mem y).2 ⟨by omega, hy.2⟩
      rcases List.mem_cons.1 this with e | e
      · omega
      · exact e
theorem KF.miss {F : Int → Option Int} {n : Int} {ks : List Int} (h : KF F n ks) (hF : F n = none) : KF F (n + 1) ks := by
  refine ⟨h.sorted, fun y => ⟨fun hy => ?_, fun hy => (h.mem y).2 ⟨by omega, hy.2⟩⟩⟩
  have h2 := (h.mem y).1 hy
  refine ⟨?_, h2.2⟩
  by_cases e : y = n
  · subst e
    rw [hF] at h2
    cases h2.2.2
  · omega
theorem KF.of {F : Int → Option Int} {ks : List Int} (h : KeysOf F ks) (hF : ∀ x, (F x).isSome = true → 0 ≤ x) : KF F 0 ks := ⟨h.sorted, fun x => ⟨fun hx => ⟨hF x ((h.mem x).1 hx).2, (h.mem x).1 hx⟩, fun hx => (h.mem x).2 hx.2⟩⟩
theorem KF.over {F : Int → Option Int} {L : LS} {T : DS} {ks : List Int} (h : KF F (L.last.pages : Int) ks) : stlK L ks T = (0, T) := by
  cases ks with
  | nil => rfl
  | cons x r =>
    have := ((h.mem x).1 (List.mem_cons_self ..)).1
    unfold stlK
    rw [if_pos this]
theorem stlK_up {L : LS} {T : DS} {n v : Int} {r : List Int} {t : ByteArray} (hn : n < (L.last.pages : Int)) (hv : L.pl n = some v) (hr : rdF T v = (t, 0)) : stlK L (n :: r) T = if ¬ (opD T 0 (1024 * n) t false).1 = 0 then opD T 0 (1024 * n) t false else stlK L r (opD T 0 (1024 * n) t false).2 := by
  have e : rdF T ((L.pl n).getD 0) = (t, 0) := by rw [hv]; exact hr
  show (if (L.last.pages : Int) ≤ n then (0, T) else if ¬ (rdF T ((L.pl n).getD 0)).2 = 0 then _ else _) = _
  rw [if_neg (by omega), e, if_neg (fun k => k rfl)]
theorem stlK_down {L : LS} {T : DS} {n v : Int} {r : List Int} (hn : n < (L.last.pages : Int)) (hv : L.pl n = some v) (hr : (rdF T v).2 = 2) : stlK L (n :: r) T = (2, T) := by
  have e : (rdF T ((L.pl n).getD 0)).2 = 2 := by rw [hv]; exact hr
  show (if (L.last.pages : Int) ≤ n then (0, T) else if ¬ (rdF T ((L.pl n).getD 0)).2 = 0 then _ else _) = _
  rw [if_neg (by omega), e, if_pos (by decide)]
/- what a log's frames are by the disk -/
structure Txt (fs : List (Int × ByteArray)) (k : Nat) (S : DS) : Prop where
  up : ∀ v : Nat, v < k → ∀ T : DS, T.lb 2 = S.lb 2 → T.down = false → rdF T v = ((nthF fs v).2, 0)
  dn : ∀ v : Nat, v < k → ∀ T : DS, T.down = true → (rdF T v).2 = 2
theorem opD_keep {T : DS} {p : Int} {t : ByteArray} {c : Bool} : (opD T 0 p t c).2.lb 2 = T.lb 2 := by
  unfold opD
  split
  · split
    · rfl
    · rfl
  · rfl
/- between two pages -/
structure CkR (X w : World) (B R M m : Nat) (fs : List (Int × ByteArray)) (c : Cm) (vf : Value) (L : LS) (S : DS) (ks : List Int) (n : Int) (T : DS) (ks' : List Int) : Prop where
  rl : RLx w B R M fs vf c T
  eq : stlK L ks S = stlK L ks' T
  kf : KF L.pl n ks'
  ok : okS T (m + (ks.length - ks'.length))
  le : ks'.length ≤ ks.length
  sm : T.lb 2 = S.lb 2
  bel : BelT tyL B X w
theorem ck_err {L : LS} {S T : DS} {ks : List Int} {r : Int} (e1 : L.fr = L.last.frames) (e2 : ¬ L.fr = 0) (h : stlK L ks S = (r, T)) (hr : ¬ r = 0) : ckL L S ks = (r, L, T) := by
  have e : stlL L S ks = (r, T) := by unfold stlL; rw [h, if_pos hr]
  unfold ckL
  rw [if_neg (fun k => k e1), if_neg e2, e, if_pos hr]
theorem ck_end {L L3 : LS} {S T T1 T2 T3 : DS} {ks : List Int} {r1 r2 r3 : Int} (e1 : L.fr = L.last.frames) (e2 : ¬ L.fr = 0) (h : stlK L ks S = (0, T)) (h1 : opD T 0 (1024 * (L.last.pages : Int)) ⟨#[]⟩ true = (r1, T1)) (h2 : synD T1 0 = (r2, T2)) (h3 : tlL L T2 0 L.last.pages = (r3, L3, T3)) :
    ckL L S ks = if r1 = 0 then (if r2 = 0 then (if r3 = 0 then (0, { L3 with pl := fun _ => none }, T3) else (r3, L3, T3)) else (r2, L, T2)) else (r1, L, T1) := by
  have e := stl_end h h1 h2
  unfold ckL
  rw [if_neg (fun k => k e1), if_neg e2, e]
  by_cases k1 : r1 = 0
  · rw [if_pos k1, if_pos k1]
    by_cases k2 : r2 = 0
    · subst k2
      rw [if_neg (fun k => k rfl), if_pos rfl, h3]
      by_cases k3 : r3 = 0
      · subst k3; rfl
      · rw [if_neg k3, if_pos k3]
    · rw [if_neg k2, if_pos k2]
  · rw [if_neg k1, if_neg k1, if_pos k1]
def ckF (L : LS) (S : DS) (fs : List (Int × ByteArray)) (ks : List Int) : List (Int × ByteArray) := if L.fr = L.last.frames ∧ ¬ L.fr = 0 ∧ (ckL L S ks).1 = 0 then [] else fs
set_option maxRecDepth 20000 in
set_option maxHeartbeats 2000000 in
theorem rcheck (X : World) (B R M m : Nat) (fs : List (Int × ByteArray)) (c : Cm) (S : DS) (L : LS) (ks : List Int) (h : RL X B R M fs c S) (hB : B ≤ X.heap.size) (ho : okS S m) (hm : m ≤ 100000) (hf : fs.length ≤ 65536) (hL : L.fr = fs.length) (hLc : L.last = c) (hc : okCm c)
    (hk : L.fr = L.last.frames → ¬ L.fr = 0 → KF L.pl 0 ks ∧ ks.length ≤ 100000 ∧ L.pl = fndL fs c.frames) (hT : Txt fs fs.length S) :
    Calls Tryz.prog 21 #[(.pointer (some ⟨M, 0, none⟩))] X fun e w' => e = .returned (.int .i64 (ckL L S ks).1) ∧ RL w' B R M (ckF L S fs ks) (ckL L S ks).2.1.last (ckL L S ks).2.2 ∧ BelT tyL B X w' := by
  obtain ⟨vf, hx⟩ := h
  obtain ⟨c0, c1, c2, c3, c4, c5⟩ := hx.cells
  have hM := hx.lt
  have HP : Hid (RLx X B R M fs vf c S) := hx
  have HB0 : Hid (B ≤ X.heap.size) := hB
  obtain ⟨k, hkk⟩ : ∃ k, k = fs.length := ⟨_, rfl⟩
  have HKK : Hid (k = fs.length) := hkk
  obtain ⟨a, cap, rfl⟩ : ∃ a cap, vf = .slice a k cap := by
    rw [hkk]
    rcases owns_sliceF hx.row with ⟨h1, h2⟩ | ⟨g, cap, h1, h2⟩
    · exact ⟨none, 0, by rw [h1, h2]⟩
    · exact ⟨_, cap, h1⟩
  by_cases e1 : L.fr = L.last.frames
  · by_cases e2 : L.fr = 0
    · have e9 : ckL L S ks = (0, L, S) := by unfold ckL; rw [if_neg (fun h => h e1), if_pos e2]
      have e8 : ckF L S fs ks = fs := by unfold ckF; rw [if_neg (fun h => h.2.1 e2)]
      rw [e9, e8]
      have z1 : c.frames = 0 := by rw [← hLc, ← e1]; exact e2
      obtain rfl : k = 0 := by omega
      rw [z1] at c2
      have HPP : Hid (RL X B R M fs L.last S) := by rw [hLc]; exact ⟨_, hx⟩
      clear hx hL hLc hc hk e1 e2 e9 e8 z1 hkk ho hT
      go_enter Tryz.func21, Tryz.ntmps21
      go_wp2_with fail
      go_quiet (fail)
      go_wp2
      go_ret
      exact ⟨rfl, HPP.out.below (drawnB _ _), belowT (drawnB _ _) HB0.out⟩
    · obtain ⟨hk1, hk2, hk3⟩ := hk e1 e2
      have hkf : k = c.frames := by rw [hkk, ← hL, e1, hLc]
      have hk0 : 0 < k := by omega
      obtain ⟨g, rfl⟩ : ∃ g, a = some ⟨g, 0, none⟩ := by
        rcases owns_sliceF hx.row with ⟨h1, h2⟩ | ⟨g, cap', h1, h2⟩
        · omega
        · injection h1 with e _ _
          exact ⟨g, e⟩
      rw [← hkf] at c2 hk3
      obtain ⟨pg, hpg⟩ : ∃ pg : Nat, pg = c.pages := ⟨_, rfl⟩
      rw [← hpg] at c3
      have hpl : pg < 4294967296 := by rw [hpg]; exact hc.pages
      have HPG : Hid (pg = c.pages ∧ L.last.pages = pg) := (⟨hpg, by rw [hLc, hpg]⟩ : pg = c.pages ∧ L.last.pages = pg)
      have HKL : Hid (L.pl = fndL fs k) := hk3
      have HTX : Hid (Txt fs k S) := by rw [hkk]; exact hT
      have HR0 : Hid (∀ nq, CkR X (X.drewN nq) B R M m fs c (.slice (some ⟨g, 0, none⟩) k cap) L S ks 0 S ks) := fun nq => ⟨hx.below (drawnB _ _), rfl, hk1, ho.mono (by omega), Nat.le_refl _, rfl, belowT (drawnB _ _) hB⟩
      obtain ⟨rr, LL, SS, hck⟩ : ∃ rr LL SS, ckL L S ks = (rr, LL, SS) := ⟨_, _, _, rfl⟩
      obtain ⟨FF, hff⟩ : ∃ FF, FF = ckF L S fs ks := ⟨_, rfl⟩
      have HCK : Hid (ckL L S ks = (rr, LL, SS)) := hck
      have HFF : Hid (FF = if rr = 0 then [] else fs) := by
        show FF = if rr = 0 then [] else fs
        rw [hff]
        unfold ckF
        rw [hck]
        by_cases h0 : rr = 0
        · rw [if_pos ⟨e1, e2, h0⟩, if_pos h0]
        · rw [if_neg (fun h => h0 h.2.2), if_neg h0]
      have HE : Hid (L.fr = L.last.frames ∧ ¬ L.fr = 0) := (⟨e1, e2⟩ : L.fr = L.last.frames ∧ ¬ L.fr = 0)
      have HLC : Hid (L.last = c) := hLc
      have HCM : Hid (okCm c) := hc
      have HKF : Hid (k = c.frames) := hkf
      have hkb : ((k : Int) == 0) = false := by
        have : ¬ (k : Int) = 0 := by omega
        simpa using this
      have hk5 : k ≤ 65536 := by omega
      have hm1 : m + ks.length ≤ 200000 := by omega
      have HLOW : Hid (B ≤ M) := hx.low
      have HNF : Hid (M < X.heap.size → ¬ farT tyL X M) := fun _ => hx.nf
      rw [hck, ← hff]
      clear hx hL hLc hc hk e1 e2 hkk hkf hk1 hk2 hk3 hck hff hpg ho hT hB hm HP hf
      go_enter Tryz.func21, Tryz.ntmps21
      go_wp2_with fail
      go_quiet (fail)
      go_upto_block 0 with fail
      have HR1 : Hid (CkR X (X.drewN nq) B R M m fs c (.slice (some ⟨g, 0, none⟩) k cap) L S ks 0 S ks) := HR0.out nq
      generalize X.drewN nq = W at HR1 ⊢
      clear HR0 c0 c1 c2 c3 c4 c5 hM
      go_wp2_with fail
      go_loopw [3] (fun u w => ∃ (n : Nat) (T : DS) (ks' : List Int), u = .int .i64 n ∧ n ≤ pg ∧ Hid (CkR X w B R M m fs c (.slice (some ⟨g, 0, none⟩) k cap) L S ks n T ks')) (fun u _ => pg - (intOf u).toNat)
      case atStart => exact ⟨0, S, ks, rfl, Nat.zero_le _, HR1⟩
      case round =>
        clear HR1
        obtain ⟨n, T, ks', rfl, hn, HC⟩ := hrel
        obtain ⟨c0, c1, c2, c3, c4, c5⟩ := HC.out.rl.cells
        obtain ⟨g4, hR⟩ := rdown HC.out.rl.dsk
        have hM := HC.out.rl.lt
        have hpg := HPG.out.1
        have hkf := HKF.out
        rw [← hpg] at c3
        rw [← hkf] at c2
        clear hpg hkf
        by_cases hlt : n < pg
        · have k1 : (n : Int) < (pg : Int) := by omega
          have HN1 : Hid (((n + 1 : Nat) : Int) = (n : Int) + 1) := by
            show ((n + 1 : Nat) : Int) = (n : Int) + 1
            omega
          go_wp2_with fail
          go_loop [4] (fun u => ∃ j : Nat, u = .int .i64 ((j : Int) - 1) ∧ j ≤ k ∧ Hid (fndL fs k n = fndL fs j n)) (fun u => (intOf u + 1).toNat)
          case atStart => exact ⟨k, rfl, Nat.le_refl _, rfl⟩
          case round =>
            obtain ⟨j, rfl, hj, HJ⟩ := hrel
            cases j with
            | zero =>
              have HC2 : Hid (CkR X wr B R M m fs c (.slice (some ⟨g, 0, none⟩) k cap) L S ks (n + 1 : Nat) T ks') := ⟨HC.out.rl, HC.out.eq, by
                rw [HN1.out]; exact HC.out.kf.miss (by rw [HKL.out, HJ.out]; rfl), HC.out.ok, HC.out.le, HC.out.sm, HC.out.bel⟩
              clear HC HJ
              go_wp2_with fail
              go_roundw
              case rel => exact ⟨n + 1, T, ks', by go_num, by omega, HC2⟩
              case measure => simp [intOf]; omega
            | succ i =>
              obtain ⟨q0, q1⟩ := fcells HC.out.rl HKK.out (i := i) (by omega)
              have x1 : ((i + 1 : Nat) : Int) - 1 = (i : Int) := by omega
              rw [x1]
              have b1 : (0 : Int) ≤ (i : Int) := by omega
              have b2 : (i : Int) < (k : Int) := by omega
              by_cases he : (nthF fs i).1 = (n : Int)
              · have hv : L.pl n = some (i : Int) := by rw [HKL.out, HJ.out]; exact fndL_hit he
                obtain ⟨r, hr, hkf⟩ := HC.out.kf.hit (i64_in (by omega) (by omega)) (by rw [hv]; rfl)
                subst hr
                have hz : ((nthF fs i).1 == (n : Int)) = true := by simpa using he
                have hnp : (n : Int) < (L.last.pages : Int) := by rw [HPG.out.2]; exact k1
                cases hd : T.down with
                | true =>
                  rw [hd] at g4
                  have hs : stlK L ks S = (2, T) := HC.out.eq.trans (stlK_down hnp hv (HTX.out.dn i (by omega) T hd))
                  have hck := HCK.out
                  rw [ck_err HE.out.1 HE.out.2 hs (by decide)] at hck
                  injection hck with a1 a2
                  injection a2 with a2 a3
                  subst a1 a2 a3
                  have HRR : Hid (RL wr B R M FF L.last T) := by
                    have := HFF.out
                    rw [if_neg (by decide)] at this
                    rw [this, HLC.out]
                    exact ⟨_, HC.out.rl⟩
                  clear hs hkf hnp hv hd HJ HCK HFF he
                  go_wp2
                  go_ret
                  exact ⟨rfl, HRR.out, HC.out.bel⟩
                | false =>
                  rw [hd] at g4
                  obtain ⟨t, ht⟩ : ∃ t, t = (nthF fs i).2 := ⟨_, rfl⟩
                  obtain ⟨r1, T1, hop⟩ : ∃ r1 T1, opD T 0 (1024 * (n : Int)) t false = (r1, T1) := ⟨_, _, rfl⟩
                  have hst : stlK L ks S = if ¬ r1 = 0 then (r1, T1) else stlK L r T1 := by
                    rw [HC.out.eq, stlK_up hnp hv (HTX.out.up i (by omega) T HC.out.sm hd), ← ht, hop]
                  have hsm : T1.lb 2 = S.lb 2 := by
                    have := opD_keep (T := T) (p := 1024 * (n : Int)) (t := t) (c := false)
                    rw [hop] at this
                    rw [this]; exact HC.out.sm
                  have hle := HC.out.le
                  have hok : okS T1 (m + (ks.length - r.length)) := by
                    have := opD_ok HC.out.ok 0 (1024 * (n : Int)) t false
                    rw [hop] at this
                    refine this.mono ?_
                    rw [List.length_cons] at hle ⊢
                    omega
                  have HOP : Hid (opD T 0 (1024 * (n : Int)) t false = (r1, T1)) := hop
                  have HST : Hid (stlK L ks S = if ¬ r1 = 0 then (r1, T1) else stlK L r T1) := hst
                  have HSM : Hid (T1.lb 2 = S.lb 2 ∧ okS T1 (m + (ks.length - r.length)) ∧ r.length ≤ ks.length ∧ KF L.pl ((n : Int) + 1) r) := (⟨hsm, hok, by rw [List.length_cons] at hle; omega, hkf⟩ : T1.lb 2 = S.lb 2 ∧ okS T1 (m + (ks.length - r.length)) ∧ r.length ≤ ks.length ∧ KF L.pl ((n : Int) + 1) r)
                  have HOT : Hid (okS T (m + (ks.length - (n :: r : List Int).length)) ∧ m + (ks.length - ((n : Int) :: r : List Int).length) ≤ 1000000) := (⟨HC.out.ok, by omega⟩ : _ ∧ _)
                  have HBw : Hid (B ≤ wr.heap.size) := Nat.le_trans HB0.out HC.out.bel.size
                  have HW1 : Hid (IntKind.i64.wrap (1024 * (n : Int)) = 1024 * (n : Int)) := by
                    show IntKind.i64.wrap (1024 * (n : Int)) = 1024 * (n : Int)
                    rw [IntKind.wrap_i64]; omega
                  have hdb : Below wr.heap.size wr wr.drew := (Below.refl _ _).drew
                  have HLD : Hid (RLx wr.drew B R M fs (.slice (some ⟨g, 0, none⟩) k cap) c T) := HC.out.rl.below hdb
                  have HFD : Hid (BelT tyL B X wr.drew) := HC.out.bel.trans (belowT hdb HBw.out)
                  rw [← ht] at q1
                  clear hdb hst hsm hok hle hop hkf hnp hv hd ht he HJ
                  go_upto_region 14 with fail
                  go_cut [5] (fun x wx => x = .int .i64 r1 ∧ Hid (RLx wx B R M fs (.slice (some ⟨g, 0, none⟩) k cap) c T1) ∧ Hid (BelT tyL B X wx))
                  case first =>
                    go_region_with (first | (go_at_call 60; rw [HW1.out]; refine (rwriteD 0 (1024 * (n : Int)) t wr.drew B R T _ HLD.out.dsk HBw.out HOT.out.1 HOT.out.2).mono ?_; rw [HOP.out]; rintro e w5 ⟨rfl, hp5, hb5⟩))
                    all_goals
                      go_wp2_with fail
                      go_meet
                      case rel => exact ⟨rfl, HLD.out.disk hb5 hp5, HFD.out.trans hb5.toL⟩
                  case rest =>
                    obtain ⟨rfl, HL5, HF5⟩ := hcut
                    by_cases hr1 : r1 = 0
                    · subst hr1
                      have HC2 : Hid (CkR X wc B R M m fs c (.slice (some ⟨g, 0, none⟩) k cap) L S ks (n + 1 : Nat) T1 r) := ⟨HL5.out, by
                        rw [HST.out, if_neg (fun h => h rfl)], by rw [HN1.out]; exact HSM.out.2.2.2, HSM.out.2.1, HSM.out.2.2.1, HSM.out.1, HF5.out⟩
                      clear HL5 HF5 HST HSM HOP HOT HC
                      go_wp2_with fail
                      go_roundw
                      case rel => exact ⟨n + 1, T1, r, by go_num, by omega, HC2⟩
                      case measure => simp [intOf]; omega
                    · have hck := HCK.out
                      have hs := HST.out
                      rw [if_pos hr1] at hs
                      rw [ck_err HE.out.1 HE.out.2 hs hr1] at hck
                      injection hck with a1 a2
                      injection a2 with a2 a3
                      subst a1 a2 a3
                      have HRR : Hid (RL wc B R M FF L.last T1) := by
                        have := HFF.out
                        rw [if_neg hr1] at this
                        rw [this, HLC.out]
                        exact ⟨_, HL5.out⟩
                      have hz1 : (r1 == 0) = false := by simpa using hr1
                      have hz2 : (r1 != 0) = true := by simpa using hr1
                      clear hs HCK HFF HST HSM HOP
                      go_wp2
                      go_ret
                      exact ⟨rfl, HRR.out, HF5.out⟩
              · have HJ2 : Hid (fndL fs k n = fndL fs i n) := by
                  show fndL fs k n = fndL fs i n
                  rw [HJ.out]; exact fndL_miss he
                have hz : ((nthF fs i).1 == (n : Int)) = false := by simpa using he
                clear HJ
                go_wp2
                go_round
                case rel => exact ⟨i, by go_num, by omega, HJ2⟩
                case measure => simp [intOf]
        · obtain rfl : n = pg := by omega
          obtain ⟨r1, T1, h1⟩ : ∃ r1 T1, opD T 0 (1024 * (n : Int)) ⟨#[]⟩ true = (r1, T1) := ⟨_, _, rfl⟩
          obtain ⟨r2, T2, h2⟩ : ∃ r2 T2, synD T1 0 = (r2, T2) := ⟨_, _, rfl⟩
          obtain ⟨r3, L3, T3, h3⟩ : ∃ r3 L3 T3, tlL L T2 0 n = (r3, L3, T3) := ⟨_, _, _, rfl⟩
          have o0 : okS T (m + ks.length) := HC.out.ok.mono (by omega)
          have o1 : okS T1 (m + ks.length + 1) := by have := opD_ok o0 0 (1024 * (n : Int)) ⟨#[]⟩ true; rw [h1] at this; exact this
          have o2 : okS T2 (m + ks.length + 2) := by have := synD_ok o1 0; rw [h2] at this; exact this
          have hs : stlK L ks S = (0, T) := by
            rw [HC.out.eq]
            exact KF.over (F := L.pl) (by rw [HPG.out.2]; exact HC.out.kf)
          have hck := HCK.out
          have g1 : opD T 0 (1024 * (L.last.pages : Int)) ⟨#[]⟩ true = (r1, T1) := by rw [HPG.out.2]; exact h1
          have g3 : tlL L T2 0 L.last.pages = (r3, L3, T3) := by rw [HPG.out.2]; exact h3
          rw [ck_end HE.out.1 HE.out.2 hs g1 h2 g3] at hck
          have HCK2 : Hid ((if r1 = 0 then (if r2 = 0 then (if r3 = 0 then (0, { L3 with pl := fun _ => none }, T3) else (r3, L3, T3)) else (r2, L, T2)) else (r1, L, T1)) = (rr, LL, SS)) := hck
          have H1 : Hid (opD T 0 (1024 * (n : Int)) ⟨#[]⟩ true = (r1, T1)) := h1
          have H2 : Hid (synD T1 0 = (r2, T2)) := h2
          have H3 : Hid (tlL L T2 0 n = (r3, L3, T3)) := h3
          have HOO : Hid ((okS T (m + ks.length) ∧ m + ks.length ≤ 1000000) ∧ (okS T1 (m + ks.length + 1) ∧ m + ks.length + 1 ≤ 1000000) ∧ (okS T2 (m + ks.length + 2) ∧ m + ks.length + 2 ≤ 900000)) := (⟨⟨o0, by omega⟩, ⟨o1, by omega⟩, ⟨o2, by omega⟩⟩ : _ ∧ _ ∧ _)
          have HBw : Hid (B ≤ wr.heap.size) := Nat.le_trans HB0.out HC.out.bel.size
          have hdb : Below wr.heap.size wr wr.drew := (Below.refl _ _).drew
          have HLD : Hid (RLx wr.drew B R M fs (.slice (some ⟨g, 0, none⟩) k cap) c T) := HC.out.rl.below hdb
          have HFD : Hid (BelT tyL B X wr.drew) := HC.out.bel.trans (belowT hdb HBw.out)
          have HW1 : Hid (IntKind.i64.wrap (1024 * (n : Int)) = 1024 * (n : Int)) := by
            show IntKind.i64.wrap (1024 * (n : Int)) = 1024 * (n : Int)
            rw [IntKind.wrap_i64]; omega
          clear o0 o1 o2 hs hck h1 h2 h3 hdb g1 g3 HCK HC hn
          go_upto_region 17 with fail
          go_cut [6] (fun x wx => x = .int .i64 r1 ∧ Hid (RLx wx B R M fs (.slice (some ⟨g, 0, none⟩) k cap) c T1) ∧ Hid (BelT tyL B X wx))
          case first =>
            go_region_with (first | (go_at_call 67; rw [HW1.out]; refine (rcutD 0 (1024 * (n : Int)) wr.drew B R T _ HLD.out.dsk HBw.out HOO.out.1.1 HOO.out.1.2).mono ?_; rw [H1.out]; rintro e w5 ⟨rfl, hp5, hb5⟩))
            all_goals
              go_wp2_with fail
              go_meet
              case rel => exact ⟨rfl, HLD.out.disk hb5 hp5, HFD.out.trans hb5.toL⟩
          case rest =>
            obtain ⟨rfl, HL5, HF5⟩ := hcut
            clear HLD HFD c0 c1 c2 c3 c4 c5 g4 hR hM
            have HB5 : Hid (B ≤ wc.heap.size) := Nat.le_trans HB0.out HF5.out.size
            by_cases z1 : r1 = 0
            · subst z1
              obtain ⟨c0, c1, c2, c3, c4, c5⟩ := HL5.out.cells
              have hM := HL5.out.lt
              go_wp2_with fail
              refine (rsyncD 0 wc B R T1 _ HL5.out.dsk HB5.out HOO.out.2.1.1 HOO.out.2.1.2).mono ?_
              rw [H2.out]
              rintro e w6 ⟨rfl, hp6, hb6⟩
              have HL6 : Hid (RLx w6 B R M fs (.slice (some ⟨g, 0, none⟩) k cap) c T2) := HL5.out.disk hb6 hp6
              have HF6 : Hid (BelT tyL B X w6) := HF5.out.trans hb6.toL
              have HB6 : Hid (B ≤ w6.heap.size) := Nat.le_trans HB0.out HF6.out.size
              clear hp6 hb6 HL5 HF5 HB5 c0 c1 c2 c3 c4 c5 hM
              by_cases z2 : r2 = 0
              · subst z2
                obtain ⟨c0, c1, c2, c3, c4, c5⟩ := HL6.out.cells
                have hM := HL6.out.lt
                have hpg := HPG.out.1
                rw [← hpg] at c3
                clear hpg
                have hTL := rtell 0 n w6 B R M (m + ks.length + 2) fs c T2 ⟨_, HL6.out⟩ HB6.out HOO.out.2.2.1 HOO.out.2.2.2 HCM.out (by decide) hpl L HLC.out
                rw [H3.out] at hTL
                have HTL : Hid (Calls Tryz.prog 65 #[(.pointer (some ⟨M, 0, none⟩)), .int .i64 0, .int .i64 n] w6 fun e w' => e = .returned (.int .i64 r3) ∧ RL w' B R M fs L3.last T3 ∧ BelT tyL B w6 w') := hTL
                clear hTL
                go_wp2_with fail
                refine HTL.out.mono ?_
                rintro e w7 ⟨rfl, hr7, hb7⟩
                have HF7 : Hid (BelT tyL B X w7) := HF6.out.trans hb7
                obtain ⟨vf7, hx7⟩ := hr7
                have HX7 : Hid (RLx w7 B R M fs vf7 L3.last T3) := hx7
                clear hx7 hb7 HTL HL6 HF6 HB6 c0 c1 c2 c3 c4 c5 hM
                by_cases z3 : r3 = 0
                · subst z3
                  have hck := HCK2.out
                  simp only [if_true] at hck
                  injection hck with a1 a2
                  injection a2 with a2 a3
                  obtain ⟨c0, c1, c2, c3, c4, c5⟩ := HX7.out.cells
                  have f1 := HX7.out.unfrozen 1
                  have hM := HX7.out.lt
                  have HRR : Hid (RL (w7.setCell ⟨M, 1, none⟩ (.slice none 0 0)) B R M FF LL.last SS) := by
                    have hF := HFF.out
                    rw [← a1, if_pos rfl] at hF
                    rw [hF, ← a2, ← a3]
                    exact ⟨_, HX7.out.frames (Below.refl _ _) (World.ownsRow_nil _ _ _ _)⟩
                  have HFR : Hid (BelT tyL B X (w7.setCell ⟨M, 1, none⟩ (.slice none 0 0))) := set_L HF7.out HLOW.out HNF.out
                  have HRE : Hid (rr = 0) := a1.symm
                  clear a1 a2 a3 HX7 HF7 HCK2 HFF
                  go_wp2
                  go_ret
                  exact ⟨by rw [HRE.out]; rfl, HRR.out, HFR.out⟩
                · have hck := HCK2.out
                  simp only [if_true, if_neg z3] at hck
                  injection hck with a1 a2
                  injection a2 with a2 a3
                  subst a1 a2 a3
                  have HRR : Hid (RL w7 B R M FF L3.last T3) := by
                    have hF := HFF.out
                    rw [if_neg z3] at hF
                    rw [hF]
                    exact ⟨_, HX7.out⟩
                  have z3' : (r3 == 0) = false := by simpa using z3
                  clear HCK2 HFF
                  go_wp2
                  go_ret
                  exact ⟨rfl, HRR.out, HF7.out⟩
              · have hck := HCK2.out
                simp only [if_true, if_neg z2] at hck
                injection hck with a1 a2
                injection a2 with a2 a3
                subst a1 a2 a3
                have HRR : Hid (RL w6 B R M FF L.last T2) := by
                  have hF := HFF.out
                  rw [if_neg z2] at hF
                  rw [hF, HLC.out]
                  exact ⟨_, HL6.out⟩
                have z2' : (r2 == 0) = false := by simpa using z2
                clear HCK2 HFF
                go_wp2
                go_ret
                exact ⟨rfl, HRR.out, HF6.out⟩
            · have hck := HCK2.out
              rw [if_neg z1] at hck
              injection hck with a1 a2
              injection a2 with a2 a3
              subst a1 a2 a3
              have HRR : Hid (RL wc B R M FF L.last T1) := by
                have hF := HFF.out
                rw [if_neg z1] at hF
                rw [hF, HLC.out]
                exact ⟨_, HL5.out⟩
              have z1' : (r1 == 0) = false := by simpa using z1
              clear HCK2 HFF
              go_wp2
              go_ret
              exact ⟨rfl, HRR.out, HF5.out⟩
  · have e9 : ckL L S ks = (11, L, S) := by unfold ckL; rw [if_pos e1]
    have e8 : ckF L S fs ks = fs := by unfold ckF; rw [if_neg (fun h => e1 h.1)]
    rw [e9, e8]
    have z1 : ¬ (k : Int) = (c.frames : Int) := by
      rw [hLc] at e1
      omega
    have z2 : ((k : Int) == (c.frames : Int)) = false := by simpa using z1
    have HPP : Hid (RL X B R M fs L.last S) := by rw [hLc]; exact ⟨_, hx⟩
    obtain ⟨cf, hcf⟩ : ∃ cf, cf = c.frames := ⟨_, rfl⟩
    rw [← hcf] at c2 z1 z2
    clear hx hL hLc hc hk e1 e9 e8 hkk ho hT hcf
    go_enter Tryz.func21, Tryz.ntmps21
    go_wp2_with fail
    go_quiet (fail)
    go_wp2
    go_ret
    exact ⟨rfl, HPP.out.below (drawnB _ _), belowT (drawnB _ _) HB0.out⟩
end Go.Proofs.YtfjkockcgddgbaaGreat
