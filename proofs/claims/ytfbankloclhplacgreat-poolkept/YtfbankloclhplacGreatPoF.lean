/- package pool: use -/
import Derived.Test.YtfbankloclhplacGreatPoE
namespace Go.Proofs.YtfbankloclhplacGreat
open Go.RowKit Go.Lib Go.Maps Go.Sort
attribute [local go_sem ↓] Go.wp_at_zero Go.wp_at_succ
theorem erase_perm {l : List Int} {i : Nat} {x : Int} (hi : i < l.length) (h : l[i]? = some x) : (l.eraseIdx i ++ [x]).Perm l := by
  have hx : l[i] = x := by rw [List.getElem?_eq_getElem hi] at h; injection h
  have h1 : l = l.take i ++ x :: l.drop (i + 1) := by rw [← hx, ← List.drop_eq_getElem_cons, List.take_append_drop]
  rw [List.eraseIdx_eq_take_drop_succ]
  refine List.Perm.trans ?_ (List.Perm.of_eq h1.symm)
  rw [List.append_assoc]
  exact List.Perm.append_left _ List.perm_append_comm
theorem infoIntP : (Tryz.prog.info? 3).map (fun i => (i.zero, i.size, i.bytes)) = some (some (.int .i64 0), 1, 8) := by kernel_rfl
theorem use_grown {w1 w2 w3 : World} {r q : Option Nat} {o : Obj} (h : w1.grownBy w2 r) (e : q = r) (hg : (w2.alloc o).grownBy w3 q) : w1.grownBy w3 r := by
  rw [e] at hg
  exact But.trans (grown_alloc h o) hg
theorem use_len {l : List Int} {i ol : Nat} {n : Int} (hi : i < l.length) (h : ol + 1 = l.length) : (l.eraseIdx i ++ [n]).length = ol + 1 := by
  rw [List.length_append, List.length_eraseIdx, if_pos hi]
  simp
  omega
theorem use_own {w1 w2 : World} {r q v : Option Nat} {o : Obj} (h : w1.grownBy w2 r) (e : q = r) (hv : v = q ∨ v = some (w2.alloc o).heap.size) : v = r ∨ ∃ k, v = some k ∧ w1.heap.size ≤ k := by
  rcases hv with h1 | h1
  · left; rw [h1, e]
  · right; exact ⟨_, h1, by have := h.size; simp; omega⟩
set_option maxRecDepth 20000 in
set_option maxHeartbeats 4000000 in
theorem cuse_hit {w : World} {B D Gp : Nat} {V : PV} {C K : Pgs} {pk m : Nat} (h : PO w B D Gp V C K pk m) (n : Int) (f : FrP) (hf : V.P.fs n = some f) :
    Calls Tryz.prog 173 #[(.pointer (some ⟨Gp, 0, none⟩)), .int .i64 n] w fun e w' => ∃ V', PO w' B D Gp V' C K pk m ∧ St2 w w' B V V' ∧ V'.P.pages = V.P.pages ∧ V'.P.free = V.P.free ∧ V'.P.fs = V.P.fs ∧ e = .returned (.tuple #[(.pointer (some ⟨f.blk, 0, none⟩)), .int .i64 0]) := by
  obtain ⟨g1, g2, g3, g4, g5⟩ := h.pi.held hf
  have hpg := h.pi.pg
  have hmo := h.pi.most
  have hn : i64 n := i64_in (by omega) (by omega)
  have hn0 : ¬ n < 0 := by omega
  have hn1 : ¬ (V.P.pages : Int) ≤ n := by omega
  have hlk := h.pp.fmap.look hn
  simp only [hf, Option.map_some, ptrO, Option.isSome_some] at hlk
  obtain ⟨c0, c1, c2, c3, c4, c5, c6, c7, c8, c9⟩ := h.pp.cells
  have z7 := h.pp.unfrozen 7
  have HP1 : Hid (PP (w.setCell ⟨Gp, 7, none⟩ (.int .i64 (wrap64 (V.P.hits + 1)))) B D Gp V.b { V.P with hits := wrap64 (V.P.hits + 1) } V.L V.S) := h.pp.own rfl rfl rfl rfl
  have HB1 : Hid (BelP V.b.M V.b.M B w (w.setCell ⟨Gp, 7, none⟩ (.int .i64 (wrap64 (V.P.hits + 1))))) := h.pp.own_bel 7 _ h.lo
  have HPI : Hid (PI V.P V.L V.S C K V.N pk m) := h.pi
  have HLO : Hid (B ≤ w.heap.size) := h.lo
  have HWO := hide (cwithout n HP1.out g1 h.pi.nd (by show V.P.order.length ≤ 64; omega))
  obtain ⟨i0, hi, hz⟩ := Option.map_eq_some_iff.1 infoIntP
  simp only [Prod.mk.injEq] at hz
  obtain ⟨hz0, hz1, hz2⟩ := hz
  have hol : V.P.order.length ≤ 64 := by omega
  clear h c0 c1 c3 c5 c6 c8 c9 hf g1 g2 g3 g4 g5 hpg hmo
  generalize hW1 : w.setCell ⟨Gp, 7, none⟩ (.int .i64 (wrap64 (V.P.hits + 1))) = w1 at *
  go_enter Tryz.func173, Tryz.ntmps173
  go_wp2_with fail
  refine HWO.out.mono ?_
  rintro e w2 ⟨i, a, c, q0, q1, rfl, q2, q3, q4⟩
  change V.P.order[i]? = some n at q0
  change i < V.P.order.length at q1
  have hle : (V.P.order.eraseIdx i).length = V.P.order.length - 1 := by rw [List.length_eraseIdx, if_pos q1]
  have HQ2 : Hid (w2.ownsRow B 3 1 (.slice a (V.P.order.length - 1) c) (V.P.order.length - 1) ((V.P.order.eraseIdx i).map (Value.int .i64))) := by rw [← hle]; rw [← hle] at q2; exact q2
  have HQ3 : Hid (w1.grownBy w2 V.b.vo.ownBlock) := q3
  have HQ4 : Hid ((Value.slice a (V.P.order.length - 1) c).ownBlock = V.b.vo.ownBlock) := q4
  have HQ0 : Hid (V.P.order[i]? = some n ∧ i < V.P.order.length) := (⟨q0, q1⟩ : V.P.order[i]? = some n ∧ i < V.P.order.length)
  have hszb : B ≤ w2.heap.size := Nat.le_trans HLO.out (Nat.le_trans HB1.out.size q3.size)
  obtain ⟨ol, hol2⟩ : ∃ ol, ol = V.P.order.length - 1 := ⟨_, rfl⟩
  rw [← hol2] at HQ2 HQ4 ⊢
  have HOL : Hid (ol + 1 = V.P.order.length) := by show ol + 1 = V.P.order.length; omega
  clear q0 q1 q2 q3 q4 HWO hle hol2
  go_wp2_with (first
    | (at_builtin; refine wpList_append_own_at _ rfl _ _ 36 rfl B 3 i0 (.int .i64 0) 1 8 Tryz.underlying36 hi hz0 hz1 hz2 rfl (by decide) (.slice a ol c) ol ((V.P.order.eraseIdx i).map (Value.int .i64)) rfl (World.ownsRow.alloc HQ2.out _) ⟨w2.heap.size, 0, none⟩ 1 1 [.int .i64 n] rfl rfl (newsI _ _) (fun x hx => by simp at hx; subst hx; rfl) (by have := HOL.out; unfold maxLen; omega) (by have := HOL.out; omega) (by simp; omega) ?_; intro v1 w3 ho1 hg1 hnil1 hown1; obtain ⟨a1, cap1, rfl⟩ := owns_sliceI ho1; have HH := HP1.out.reord (l := V.P.order.eraseIdx i ++ [n]) (Nat.le_trans HLO.out HB1.out.size) (use_grown HQ3.out HQ4.out hg1) (by rw [use_len HQ0.out.2 HOL.out, List.map_append]; exact ho1) (use_own HQ3.out HQ4.out hown1); have HZ : Hid (PP (w3.setCell ⟨Gp, 5, none⟩ (.slice a1 (ol + 1) cap1)) B D Gp { V.b with vo := (.slice a1 (ol + 1) cap1) } { V.P with hits := wrap64 (V.P.hits + 1), order := V.P.order.eraseIdx i ++ [n] } V.L V.S) := HH.1; have HBZ : Hid (BelP V.b.M V.b.M B w (w3.setCell ⟨Gp, 5, none⟩ (.slice a1 (ol + 1) cap1))) := HB1.out.trans HH.2.1; have e5 := HH.2.2.1; have f5 := HH.2.2.2.1; have l5 := HH.2.2.2.2; clear HH ho1 hg1 hnil1 hown1)
    | go_in)
  have HPZ : Hid (PI { V.P with hits := wrap64 (V.P.hits + 1), order := V.P.order.eraseIdx i ++ [n] } V.L V.S C K V.N pk m) := ((HPI.out.perm (erase_perm HQ0.out.2 HQ0.out.1)).stat _ _ _ _)
  go_ret2
  exact ⟨⟨{ V.b with vo := (.slice a1 (ol + 1) cap1) }, { V.P with hits := wrap64 (V.P.hits + 1), order := V.P.order.eraseIdx i ++ [n] }, V.L, V.S, V.N⟩, ⟨HZ.out, HPZ.out, Nat.le_trans HLO.out HBZ.out.size⟩, ⟨HBZ.out, id⟩, rfl, rfl, rfl, rfl⟩
set_option maxRecDepth 20000 in
set_option maxHeartbeats 4000000 in
theorem cuse_miss {w : World} {B D Gp : Nat} {V : PV} {C K : Pgs} {pk m : Nat} (h : PO w B D Gp V C K pk m) (hm : m ≤ 50000) (n : Int) (n0 : 0 ≤ n) (n1 : n < V.P.pages) (hf : V.P.fs n = none) :
    Calls Tryz.prog 173 #[(.pointer (some ⟨Gp, 0, none⟩)), .int .i64 n] w fun e w' => ∃ V', PO w' B D Gp V' C K pk m ∧ St2 w w' B V V' ∧ V'.P.pages = V.P.pages ∧ V'.P.free = V.P.free ∧ (∀ x f, V'.P.fs x = some f → f.dirty = true → V.P.fs x = some f) ∧ ((∃ f, V'.P.fs n = some f ∧ C n = some f.text ∧ e = .returned (.tuple #[(.pointer (some ⟨f.blk, 0, none⟩)), .int .i64 0])) ∨ (e = .returned (.tuple #[.pointer none, .int .i64 2]) ∧ V'.S.down = true)) := by
  have hpg := h.pi.pg
  have hn : i64 n := i64_in (by omega) (by omega)
  have hn0 : ¬ n < 0 := by omega
  have hn1 : ¬ (V.P.pages : Int) ≤ n := by omega
  have hlk := h.pp.fmap.look hn
  simp only [hf, Option.map_none, ptrO, Option.isSome_none] at hlk
  obtain ⟨c0, c1, c2, c3, c4, c5, c6, c7, c8, c9⟩ := h.pp.cells
  have HMR := hide (cmakeRoom h hm)
  have HNR : Hid (0 ≤ n ∧ n < V.P.pages ∧ V.P.fs n = none ∧ i64 n) := (⟨n0, n1, hf, hn⟩ : 0 ≤ n ∧ n < V.P.pages ∧ V.P.fs n = none ∧ i64 n)
  clear h c0 c1 c3 c5 c6 c7 c8 c9 hf
  go_enter Tryz.func173, Tryz.ntmps173
  go_wp2_with fail
  refine HMR.out.mono ?_
  rintro e w1 ⟨V1, k1, k2, k3, k4, k5, k6, (⟨rfl, k7⟩ | ⟨rfl, k7⟩)⟩
  · have HP1 : Hid (PO w1 B D Gp V1 C K pk m) := k1
    have HS1 : Hid (St2 w w1 B V V1) := k2
    have hnone : V1.P.fs n = none := by
      cases hq : V1.P.fs n with
      | none => rfl
      | some f =>
        have := k6 n f hq
        rw [HNR.out.2.2.1] at this
        cases this
    have HK1 := hide (show V1.P.pages = V.P.pages ∧ V1.P.free = V.P.free ∧ V1.P.fs n = none ∧ V1.P.order.length < V1.P.most from ⟨k3, k4, hnone, k7⟩)
    clear hnone
    have HSUB := hide (k6)
    obtain ⟨t, t1, t2, t3, t4⟩ := k1.pi.cur n n0 (by omega)
    have hN := t4 HK1.out.2.2.1
    obtain ⟨nn, rfl⟩ : ∃ k : Nat, n = k := ⟨n.toNat, by omega⟩
    obtain ⟨j, kk, i1, i2, i3, i4⟩ := k1.pi.inv
    have hrd := rd_out i1 (by omega) (by omega : nn < 60000) hN (k1.pp.log.dsk.len 0 (by decide)) (k1.pp.log.dsk.len 2 (by decide))
    have HRD := hide (creadL (nn : Int) w1 B D V1.b.G V1.b.bp V1.b.bf 60000 V1.L V1.S k1.pp.log (i1.okp (by omega)) (i1.okf (by omega)))
    obtain ⟨c0, c1, c2, c3, c4, c5, c6, c7, c8, c9⟩ := k1.pp.cells
    have HT : Hid (C nn = some t) := t1
    clear k1 k2 k3 k4 k5 k6 k7 t1 t2 t3 t4 hN i1 i2 i3 i4 c1 c2 c3 c4 c5 c6 c7 c8 c9 HMR hlk
    rcases hrd with hr | ⟨hdn, hr⟩
    · rw [hr] at HRD
      clear hr
      go_wp2_with fail
      refine HRD.out.mono ?_
      rintro e w2 ⟨rfl, hb2⟩
      have HP2 : Hid (PO w2 B D Gp V1 C K pk m) := (⟨HP1.out.pp.below hb2, HP1.out.pi, Nat.le_trans HP1.out.lo hb2.size⟩ : PO w2 B D Gp V1 C K pk m)
      have HS2 : Hid (St2 w w2 B V V1) := HS1.out.trans ⟨below_belP hb2 HP1.out.lo _, id⟩
      obtain ⟨d0, d1, d2, d3, d4, d5, d6, d7, d8, d9⟩ := HP2.out.pp.cells
      have z8 := HP2.out.pp.unfrozen 8
      have HP3 : Hid (PP (w2.setCell ⟨Gp, 8, none⟩ (.int .i64 (wrap64 (V1.P.misses + 1)))) B D Gp V1.b { V1.P with misses := wrap64 (V1.P.misses + 1) } V1.L V1.S) := HP2.out.pp.own rfl rfl rfl rfl
      have HS3 : Hid (BelP V1.b.M V1.b.M B w2 (w2.setCell ⟨Gp, 8, none⟩ (.int .i64 (wrap64 (V1.P.misses + 1))))) := HP2.out.pp.own_bel 8 _ HP2.out.lo
      have hml := HP1.out.pi.most
      have HH := hide (chold (nn : Int) t HP3.out (Nat.le_trans HP2.out.lo HS3.out.size) HNR.out.2.2.2 (by have := HK1.out.2.2.2; show V1.P.order.length ≤ 63; omega) (fun x hx => (HP1.out.pi.keys x).2 hx) HK1.out.2.2.1)
      clear hb2 d0 d1 d2 d3 d4 d5 d6 d7 d9 HRD c0
      generalize hW3 : w2.setCell ⟨Gp, 8, none⟩ (.int .i64 (wrap64 (V1.P.misses + 1))) = w3 at *
      go_wp2_with fail
      refine HH.out.mono ?_
      rintro e w4 ⟨v, rfl, q1, q2⟩
      have HQ1 := hide (q1)
      have HQ2 := hide (q2)
      clear q1 q2 HH
      go_wp2
      go_ret2
      refine ⟨⟨{ V1.b with vo := v }, _, V1.L, V1.S, V1.N⟩, ⟨HQ1.out, ?_, Nat.le_trans HP2.out.lo (Nat.le_trans HS3.out.size HQ2.out.size)⟩, HS2.out.trans ⟨HS3.out.trans HQ2.out, id⟩, HK1.out.1, HK1.out.2.1, fun x f hx hd => ?_, .inl ⟨_, updR_at _ _ _, HT.out, rfl⟩⟩
      · have hp := HNR.out
        have hq := HK1.out
        exact (HP1.out.pi.hold w3.heap.size hp.1 (by omega) hq.2.2.1 HT.out hq.2.2.2).stat V1.P.hits (wrap64 (V1.P.misses + 1)) V1.P.spills V1.P.free
      · have hx : updR V1.P.fs (nn : Int) ⟨w3.heap.size, t, false⟩ x = some f := hx
        by_cases e : x = (nn : Int)
        · rw [e, updR_at] at hx; injection hx with hx; rw [← hx] at hd; cases hd
        · rw [updR_ne _ _ e] at hx; exact HSUB.out x f hx
    · rw [hr] at HRD
      have HDN : Hid (V1.S.down = true) := hdn
      clear hr hdn
      go_wp2_with fail
      refine HRD.out.mono ?_
      rintro e w2 ⟨rfl, hb2⟩
      have HP2 : Hid (PO w2 B D Gp V1 C K pk m) := (⟨HP1.out.pp.below hb2, HP1.out.pi, Nat.le_trans HP1.out.lo hb2.size⟩ : PO w2 B D Gp V1 C K pk m)
      have HS2 : Hid (St2 w w2 B V V1) := HS1.out.trans ⟨below_belP hb2 HP1.out.lo _, id⟩
      clear hb2 HRD
      go_wp2
      go_ret2
      exact ⟨V1, HP2.out, HS2.out, HK1.out.1, HK1.out.2.1, fun x f hx _ => HSUB.out x f hx, .inr ⟨rfl, HDN.out⟩⟩
  · have HP1 : Hid (PO w1 B D Gp V1 C K pk m) := k1
    have HS1 : Hid (St2 w w1 B V V1) := k2
    have HK1 : Hid (V1.P.pages = V.P.pages ∧ V1.P.free = V.P.free ∧ V1.S.down = true) := (⟨k3, k4, k7⟩ : V1.P.pages = V.P.pages ∧ V1.P.free = V.P.free ∧ V1.S.down = true)
    have HSUB := hide (k6)
    clear k1 k2 k3 k4 k5 k6 k7 HMR
    go_wp2
    go_ret2
    exact ⟨V1, HP1.out, HS1.out, HK1.out.1, HK1.out.2.1, fun x f hx _ => HSUB.out x f hx, .inr ⟨rfl, HK1.out.2.2⟩⟩
/- a page is used -/
theorem cuse {w : World} {B D Gp : Nat} {V : PV} {C K : Pgs} {pk m : Nat} (h : PO w B D Gp V C K pk m) (hm : m ≤ 50000) (n : Int) (n0 : 0 ≤ n) (n1 : n < V.P.pages) :
    Calls Tryz.prog 173 #[(.pointer (some ⟨Gp, 0, none⟩)), .int .i64 n] w fun e w' => ∃ V', PO w' B D Gp V' C K pk m ∧ St2 w w' B V V' ∧ V'.P.pages = V.P.pages ∧ V'.P.free = V.P.free ∧ (∀ x f, V'.P.fs x = some f → f.dirty = true → V.P.fs x = some f) ∧ ((∃ f, V'.P.fs n = some f ∧ C n = some f.text ∧ e = .returned (.tuple #[(.pointer (some ⟨f.blk, 0, none⟩)), .int .i64 0])) ∨ (e = .returned (.tuple #[.pointer none, .int .i64 2]) ∧ V'.S.down = true)) := by
  cases hf : V.P.fs n with
  | none => exact cuse_miss h hm n n0 n1 hf
  | some f =>
    refine (cuse_hit h n f hf).mono ?_
    rintro e w' ⟨V', k1, k2, k3, k4, k5, rfl⟩
    exact ⟨V', k1, k2, k3, k4, fun x g hx _ => by rw [k5] at hx; exact hx, .inl ⟨f, by rw [k5]; exact hf, (h.pi.held hf).2.2.2.1, rfl⟩⟩
end Go.Proofs.YtfbankloclhplacGreat
