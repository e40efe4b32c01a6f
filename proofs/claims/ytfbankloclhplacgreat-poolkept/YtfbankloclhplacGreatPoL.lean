/- package pool: Commit -/
import Derived.Test.YtfbankloclhplacGreatPoK
namespace Go.Proofs.YtfbankloclhplacGreat
open Go.RowKit Go.Lib Go.Maps Go.Sort Go.Shelf
attribute [local go_sem ↓] Go.wp_at_zero Go.wp_at_succ
/- behind a commit that failed -/
structure AfP (w w' : World) (B D : Nat) (V : PV) (C K : Pgs) (pk : Nat) (S' : DS) : Prop where
  ex : ∃ K2, CrOr S' K pk K2 V.P.pages 1000 ∧ ∀ n : Int, 0 ≤ n → n < V.P.pages → K2 n = C n
  ds : PDs w' B D S'
  ok : okS S' 100000
  down : S'.down = true
  bel : ∃ M', BelP V.b.M M' B w w'
theorem CrOr.more {S : DS} {F F' : Int → Option ByteArray} {p p' q q' : Nat} (h : CrOr S F p F' p' q) (hq : q ≤ q') : CrOr S F p F' p' q' := fun fa => (h fa).imp (fun ⟨c, ⟨a, b⟩, g⟩ => ⟨c, ⟨a, Nat.le_trans b hq⟩, g⟩) (fun ⟨c, ⟨a, b⟩, g⟩ => ⟨c, ⟨a, Nat.le_trans b hq⟩, g⟩)
theorem PO.crash {w : World} {B D Gp : Nat} {V : PV} {C K : Pgs} {pk m : Nat} (h : PO w B D Gp V C K pk m) : CrOK V.S K pk m := by
  obtain ⟨j, k, h1, h2, -⟩ := h.pi.inv
  have := (h1.mono (show j ≤ m by omega)).crash
  rw [h.pi.last] at this
  exact this
theorem PO.okd {w : World} {B D Gp : Nat} {V : PV} {C K : Pgs} {pk m : Nat} (h : PO w B D Gp V C K pk m) (hm : m ≤ 20000) : okS V.S 100000 := by
  obtain ⟨j, k, h1, h2, h3, h4⟩ := h.pi.inv
  exact h3.mono (by omega)
/- nothing was changed: what is committed is what there is -/
theorem PI.same {P : PS} {L : LS} {S : DS} {C K N : Pgs} {pk m : Nat} (h : PI P L S C K N pk m) (hc : ∀ x, i64 x → P.chg x = false) : pk = P.pages ∧ ∀ n : Int, 0 ≤ n → n < P.pages → K n = C n := by
  have hpg := h.pg
  have hi : ∀ n : Int, 0 ≤ n → n < P.pages → i64 n := fun n n0 n1 => i64_in (by omega) (by omega)
  refine ⟨?_, fun n n0 n1 => ?_⟩
  · have := (h.chg (P.pages - 1 : Int) (hc _ (hi _ (by omega) (by omega))) (by omega) (by omega)).1
    omega
  · obtain ⟨a1, a2, a3⟩ := h.chg n (hc n (hi n n0 n1)) n0 n1
    obtain ⟨t, c1, c2, c3, c4⟩ := h.cur n n0 n1
    rw [← a2, c1]
    cases hf : P.fs n with
    | none => exact c4 hf
    | some f => rw [h.clean n f hf (a3 f hf), c3 f hf]
/- what the log tells once the last dirty page is in it -/
theorem PI.told {P : PS} {L : LS} {S : DS} {C K N : Pgs} {pk m : Nat} (h : PI P L S C K N pk m) {n : Int} {f : FrP} (hf : P.fs n = some f) (hd : ∀ x, isD P x = true → x = n) : ∀ x : Int, 0 ≤ x → x < P.pages → wth N n f.text x = C x := fun x x0 x1 => by
  by_cases e : x = n
  · subst e; rw [wth_at]; exact (h.held hf).2.2.2.1.symm
  · rw [wth_ne _ _ e]
    obtain ⟨t, c1, c2, c3, c4⟩ := h.cur x x0 x1
    rw [c1]
    cases hq : P.fs x with
    | none => exact c4 hq
    | some g =>
      have hg : g.dirty = false := by
        cases hz : g.dirty with
        | false => rfl
        | true => exact absurd (hd x (isD_mk hq hz)) e
      rw [h.clean x g hq hg, c3 g hq]
set_option maxRecDepth 20000 in
set_option maxHeartbeats 4000000 in
theorem ccommitP {w : World} {B D Gp : Nat} {V : PV} {C K : Pgs} {pk m : Nat} (h : PO w B D Gp V C K pk m) (hm : m ≤ 990) :
    Calls Tryz.prog 49 #[(.pointer (some ⟨Gp, 0, none⟩))] w fun e w' => (∃ V' K', e = .returned (.int .i64 0) ∧ PO w' B D Gp V' C K' V.P.pages (m + 1) ∧ St2 w w' B V V' ∧ V'.P.pages = V.P.pages ∧ V'.P.free = V.P.free ∧ ∀ n : Int, 0 ≤ n → n < V.P.pages → K' n = C n) ∨ (∃ S', e = .returned (.int .i64 2) ∧ (NoF V.S → NoF S') ∧ AfP w w' B D V C K pk S') := by
  obtain ⟨c0, c1, c2, c3, c4, c5, c6, c7, c8, c9⟩ := h.pp.cells
  obtain ⟨kl, hlen, hl1, hl2⟩ := h.pp.chm.len 3
  have HP := hide (h)
  by_cases hz : kl = 0
  · subst hz
    have hs := h.pi.same (hl2.1 rfl)
    have HR := hide (show PO w B D Gp V C K V.P.pages (m + 1) ∧ ∀ n : Int, 0 ≤ n → n < V.P.pages → K n = C n from ⟨hs.1 ▸ h.mono (by omega), hs.2⟩)
    clear h c0 c1 c2 c3 c4 c5 c7 c8 c9 hs hl2
    go_enter Tryz.func49, Tryz.ntmps49
    go_wp2
    go_ret
    exact .inl ⟨V, K, rfl, HR.out.1, St2.refl _ _ _, rfl, rfl, HR.out.2⟩
  · have hz1 : ((kl : Int) == 0) = false := by simp; omega
    have HA := hide (cappendDirty h (by omega))
    have hmm := @run_makeMap Tryz.prog
    clear h c0 c1 c2 c3 c4 c5 c7 c8 c9 hl2
    go_enter Tryz.func49, Tryz.ntmps49
    go_wp2_with fail
    refine HA.out.mono ?_
    rintro e w1 ⟨V1, k1, k2, k3, k4, (⟨n, f, rfl, k5, k6⟩ | ⟨rfl, k5⟩)⟩
    · obtain ⟨g1, g2, g3, g4, g5⟩ := k1.pi.held k5
      have hpg := k1.pi.pg
      obtain ⟨n, rfl⟩ : ∃ k : Nat, n = k := ⟨n.toNat, by omega⟩
      have hn : i64 (n : Int) := i64_in (by omega) (by omega)
      have hlk := k1.pp.fmap.look1 hn
      simp only [k5, Option.map_some, ptrO] at hlk
      obtain ⟨d0, d1, d2, d3, d4, d5, d6, d7, d8, d9⟩ := k1.pp.cells
      obtain ⟨f0, f1, f2, z0, z2, hlt⟩ := k1.pp.fcells k5
      obtain ⟨j, kk, i1, i2, i3, i4⟩ := k1.pi.inv
      have hfr := i1.fr
      have HC := hide (fun (W : World) (hW : Below w1.heap.size w1 W) => ccommit (n : Int) f.text (V1.P.pages : Int) W B D V1.b.G V1.b.bp V1.b.bf 60000 kk V1.L V1.S (k1.pp.log.below hW) (Nat.le_trans k1.lo hW.size) (by decide) i3 (by omega) (by omega) i1.pre.tp.ok)
      have hok := cmL_ok (L := V1.L) i3 n f.text V1.P.pages
      have hnf : NoF V1.S → NoF (cmL V1.L V1.S n f.text V1.P.pages).2.2 := fun h => cmL_nf h _ _ _
      have HP1 := hide (k1)
      have HS1 := hide (k2)
      have HK1 := hide (show V1.P.pages = V.P.pages ∧ V1.P.free = V.P.free ∧ V1.P.fs n = some f ∧ ∀ x, isD V1.P x = true → x = (n : Int) from ⟨k3, k4, k5, k6⟩)
      rcases cm_out i1 (by omega) (by omega : n < 60000) g5 (by omega : 1 ≤ V1.P.pages) (by omega) with ⟨L2, S2, e2, v2, cr2⟩ | ⟨L2, S2, e2, v2, lp2, I2⟩
      · rw [e2] at HC hok hnf
        have HAF := hide (show CrOr S2 K pk (wth V1.N n f.text) V.P.pages 1000 ∧ (∀ x : Int, 0 ≤ x → x < V.P.pages → wth V1.N n f.text x = C x) ∧ okS S2 100000 ∧ S2.down = true ∧ (NoF V1.S → NoF S2) from ⟨by rw [← k3, ← k1.pi.last]; exact cr2.more (by omega), by rw [← k3]; exact k1.pi.told k5 k6, hok.mono (by omega), v2, hnf⟩)
        clear k1 k2 k3 k4 k5 k6 hok hnf e2 v2 cr2 i1 i2 i3 i4 d1 d3 d5 d6 d7 d8 d9 f1 f2 z0 z2 hfr HA c6 hlen
        go_wp2_with fail
        go_region_with (go_at_call 19; refine (HC.out _ ((Below.refl _ _).drew)).mono ?_; rintro e w5 ⟨rfl, hp5, hb5⟩)
        all_goals
          have HF5 := hide (show BelL V1.b.G V1.b.bp V1.b.bf B w1 w5 from (below_log ((Below.refl _ _).drew) HP1.out.lo _ _ _).trans hb5)
          have HD5 := hide (hp5.dsk)
          clear hp5 hb5
          go_wp2
          go_ret
          exact .inr ⟨S2, rfl, fun hn => HAF.out.2.2.2.2 (HS1.out.nf hn), ⟨⟨_, HAF.out.1, HAF.out.2.1⟩, HD5.out, HAF.out.2.2.1, HAF.out.2.2.2.1, _, HS1.out.bel.trans (HP1.out.pp.belL HF5.out)⟩⟩
      · rw [e2] at HC hok hnf
        have HI := hide (show PI { V1.P with fs := updR V1.P.fs n { f with dirty := false }, chg := fun _ => false } L2 S2 C (wth V1.N n f.text) (wth V1.N n f.text) V1.P.pages (m + 1) ∧ (∀ x : Int, 0 ≤ x → x < V.P.pages → wth V1.N n f.text x = C x) ∧ (NoF V1.S → NoF S2) from ⟨by
          refine k1.pi.commit (updR V1.P.fs n { f with dirty := false }) (fun x => ?_) (fun x g hx => ?_) (k1.pi.told k5 k6) I2 (by omega) hok (by omega) lp2
          · by_cases e : x = (n : Int)
            · rw [e, updR_at, k5]; rfl
            · rw [updR_ne _ _ e]
          · by_cases e : x = (n : Int)
            · rw [e, updR_at] at hx; injection hx with hx; rw [← hx]; exact ⟨rfl, f, by rw [e]; exact k5, rfl⟩
            · rw [updR_ne _ _ e] at hx
              refine ⟨?_, g, hx, rfl⟩
              cases hz : g.dirty with
              | false => rfl
              | true => exact absurd (k6 x (isD_mk hx hz)) e, by rw [← k3]; exact k1.pi.told k5 k6, hnf⟩)
        have HSM := hide (show (∀ x, (L2.pl x).isSome = true → 0 ≤ x ∧ x < ((60000 : Nat) : Int)) ∧ ∀ x, (L2.fh x).isSome = true → 0 ≤ x ∧ x < ((60000 : Nat) : Int) from ⟨I2.pos, I2.posF⟩)
        have hfr2 : L2.fr < 1000 := by have := I2.fr; omega
        have hfr3 : (L2.fr : Int) < 1000 := by omega
        clear k1 k2 k3 k4 k5 k6 hok hnf e2 v2 lp2 I2 i1 i2 i3 i4 d1 d3 d5 d6 d7 d8 d9 f1 f2 z0 z2 hfr HA c6 hlen hfr2
        go_wp2_with fail
        go_region_with (go_at_call 19; refine (HC.out _ ((Below.refl _ _).drew)).mono ?_; rintro e w5 ⟨rfl, hp5, hb5⟩)
        all_goals
          have HF5 := hide (show BelL V1.b.G V1.b.bp V1.b.bf B w1 w5 from (below_log ((Below.refl _ _).drew) HP1.out.lo _ _ _).trans hb5)
          have HP5 := hide (show PP w5 B D Gp V1.b V1.P L2 S2 from HP1.out.pp.logs HF5.out (hp5.small HSM.out.1 HSM.out.2))
          have hg := set_grown w5 f.blk 2 (.bool false)
          have hp6 : PP (w5.setCell ⟨f.blk, 2, none⟩ (.bool false)) B D Gp V1.b { V1.P with fs := updR V1.P.fs n { f with dirty := false } } L2 S2 := HP5.out.frame HK1.out.2.2.1 rfl hg (by rw [set_blk (HP5.out.frs n f HK1.out.2.2.1).1]; rfl)
          have hb6 := (HP1.out.pp.belL HF5.out).trans (HP5.out.frame_bel HK1.out.2.2.1 hg (Nat.le_trans HP1.out.lo HF5.out.size))
          obtain ⟨hp7, hb7⟩ := hp6.newset (Nat.le_trans HP1.out.lo hb6.size)
          have hGp := HP5.out.lt
          have hz5 : (w5.setCell ⟨f.blk, 2, none⟩ (.bool false)).heap.size = w5.heap.size := by simp
          rw [World.setCell_alloc_past _ _ _ _ (by rw [hz5]; exact hGp), hz5] at hp7 hb7
          have HP7 := hide (hp7)
          have HB7 := hide (hb6.trans hb7)
          have HFR := hide (fun (W : World) (hW : PP W B D Gp { V1.b with bC := w5.heap.size } { V1.P with fs := updR V1.P.fs n { f with dirty := false }, chg := fun _ => false } L2 S2) => cframes W B D V1.b.G V1.b.bp V1.b.bf 60000 L2 S2 hW.log)
          obtain ⟨q0, q1, q2, y0, y2, hlt5⟩ := HP5.out.fcells HK1.out.2.2.1
          obtain ⟨p0, p1, p2, p3, p4, p5, p6, p7, p8, p9⟩ := HP5.out.cells
          have z6 := HP5.out.unfrozen 6
          have hne : ¬ Gp = f.blk := fun e => ne_CC ⟨_, (HP5.out.frs n f HK1.out.2.2.1).1⟩ ⟨_, HP5.out.blk⟩ (by decide) e
          clear hp5 hb5 hg hp6 hb6 hp7 hb7 hz5 q0 q1 y0 p1 p2 p3 p4 p5 p7 p8 p9
          go_wp2_with fail
          refine (HFR.out _ ?hPP).mono ?_
          case hPP => exact HP7.out
          rintro e w9 ⟨rfl, hw⟩; rw [hw]; clear hw
          go_wp2
          go_ret
          have hk := HK1.out
          exact .inl ⟨⟨{ V1.b with bC := w5.heap.size }, { V1.P with fs := updR V1.P.fs n { f with dirty := false }, chg := fun _ => false }, L2, S2, wth V1.N n f.text⟩, _, rfl, ⟨HP7.out, by rw [← hk.1]; exact HI.out.1, Nat.le_trans HP1.out.lo HB7.out.size⟩, HS1.out.trans ⟨HB7.out, HI.out.2.2⟩, hk.1, hk.2.1, HI.out.2.1⟩
    · have HK := hide (show PO w1 B D Gp V1 C K pk m ∧ St2 w w1 B V V1 ∧ V1.P.pages = V.P.pages ∧ V1.S.down = true from ⟨k1, k2, k3, k5⟩)
      clear k1 k2 k3 k4 k5 HA
      go_wp2
      go_ret
      refine .inr ⟨V1.S, rfl, HK.out.2.1.nf, ⟨⟨C, (HK.out.1.crash.or _ _).more (by omega), fun _ _ _ => rfl⟩, HK.out.1.pp.log.dsk, HK.out.1.okd (by omega), HK.out.2.2.2, _, HK.out.2.1.bel⟩⟩
end Go.Proofs.YtfbankloclhplacGreat
