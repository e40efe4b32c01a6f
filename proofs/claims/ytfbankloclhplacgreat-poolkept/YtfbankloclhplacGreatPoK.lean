/- package pool: appendDirty, Commit -/
import Derived.Test.YtfbankloclhplacGreatPoJ
namespace Go.Proofs.YtfbankloclhplacGreat
open Go.RowKit Go.Lib Go.Maps Go.Sort Go.Shelf
attribute [local go_sem ↓] Go.wp_at_zero Go.wp_at_succ
theorem cpages (X : World) (B D G bp bf n : Nat) (L : LS) (S : DS) (h : PL X B D G bp bf n L S) :
    Calls Tryz.prog 30 #[(.pointer (some ⟨G, 0, none⟩))] X fun e w' => e = .returned (.int .i64 L.last.pages) ∧ w' = X := by
  obtain ⟨c0, c1, c2, c3, c4, c5, c6, c7⟩ := h.cells
  clear h
  go_enter Tryz.func30, Tryz.ntmps30
  go_wp2_with fail
  go_ret
  exact ⟨rfl, rfl⟩
theorem cframes (X : World) (B D G bp bf n : Nat) (L : LS) (S : DS) (h : PL X B D G bp bf n L S) :
    Calls Tryz.prog 32 #[(.pointer (some ⟨G, 0, none⟩))] X fun e w' => e = .returned (.int .i64 L.fr) ∧ w' = X := by
  obtain ⟨c0, c1, c2, c3, c4, c5, c6, c7⟩ := h.cells
  clear h
  go_enter Tryz.func32, Tryz.ntmps32
  go_wp2_with fail
  go_ret
  exact ⟨rfl, rfl⟩
theorem isD_some {P : PS} {x : Int} (h : isD P x = true) : ∃ f, P.fs x = some f ∧ f.dirty = true := by
  unfold isD at h
  cases hq : P.fs x with
  | none => rw [hq] at h; cases h
  | some f => rw [hq] at h; exact ⟨f, rfl, h⟩
theorem isD_mk {P : PS} {x : Int} {f : FrP} (h : P.fs x = some f) (hd : f.dirty = true) : isD P x = true := by unfold isD; rw [h]; exact hd
/- one of the dirty pages is in the log now -/
theorem drop_step {P P' : PS} {ls : List Int} {i : Nat} {f : FrP} (hn : ls.Nodup) (hi : i < ls.length) (h : ∀ x, isD P x = true ↔ x ∈ ls.drop i) (hP : P'.fs = updR P.fs ls[i] { f with dirty := false }) : ∀ x, isD P' x = true ↔ x ∈ ls.drop (i + 1) := by
  intro x
  have hd : ls.drop i = ls[i] :: ls.drop (i + 1) := List.drop_eq_getElem_cons hi
  have hnd : (ls.drop i).Nodup := hn.sublist (List.drop_sublist i ls)
  rw [hd, List.nodup_cons] at hnd
  by_cases e : x = ls[i]
  · subst e
    constructor
    · intro k
      unfold isD at k
      rw [hP, updR_at] at k
      cases k
    · intro k; exact absurd k hnd.1
  · have : isD P' x = isD P x := by unfold isD; rw [hP, updR_ne _ _ e]
    rw [this, h x, hd, List.mem_cons]
    exact ⟨fun k => k.resolve_left e, .inr⟩
set_option maxRecDepth 20000 in
set_option maxHeartbeats 4000000 in
theorem cappendDirty {w : World} {B D Gp : Nat} {V : PV} {C K : Pgs} {pk m : Nat} (h : PO w B D Gp V C K pk m) (hm : m ≤ 50000) :
    Calls Tryz.prog 116 #[(.pointer (some ⟨Gp, 0, none⟩))] w fun e w' => ∃ V', PO w' B D Gp V' C K pk m ∧ St2 w w' B V V' ∧ V'.P.pages = V.P.pages ∧ V'.P.free = V.P.free ∧ ((∃ n f, e = .returned (.tuple #[.int .i64 n, .int .i64 0]) ∧ V'.P.fs n = some f ∧ ∀ x, isD V'.P x = true → x = n) ∨ (e = .returned (.tuple #[.int .i64 0, .int .i64 2]) ∧ V'.S.down = true)) := by
  have HP := hide (h)
  have HDI := hide (cdirty h)
  clear h
  go_enter Tryz.func116, Tryz.ntmps116
  go_wp2_with fail
  refine HDI.out.mono ?_
  rintro e w1 ⟨ls, a, c, rfl, q1, q2, q3, q4⟩
  obtain ⟨p1, s1⟩ := HP.out.below q4
  have HP1 := hide (p1)
  have HS1 := hide (s1)
  have hpg := p1.pi.pg
  clear HDI p1 s1
  by_cases hl : ls = []
  · subst hl
    have HND := hide (show ∀ x, isD V.P x = false from fun x => by
      cases hq : isD V.P x with
      | false => rfl
      | true => exact absurd ((q2 x).2 hq) (List.not_mem_nil))
    have HU := hide (cuse HP1.out hm 0 (by omega) (by omega))
    clear q1 q2 q3 q4
    go_wp2_with fail
    refine HU.out.mono ?_
    rintro e w2 ⟨V2, k1, k2, k3, k4, k5, (⟨f, k6, k7, rfl⟩ | ⟨rfl, k6⟩)⟩
    · have HK := hide (show PO w2 B D Gp V2 C K pk m ∧ St2 w w2 B V V2 ∧ V2.P.pages = V.P.pages ∧ V2.P.free = V.P.free ∧ V2.P.fs 0 = some f ∧ ∀ x, isD V2.P x = true → x = 0 from ⟨k1, HS1.out.trans k2, k3, k4, k6, fun x hx => by
        obtain ⟨g, hg, hd⟩ := isD_some hx
        have := isD_mk (k5 x g hg hd) hd
        rw [HND.out x] at this
        cases this⟩)
      clear k1 k2 k3 k4 k5 k6 k7 HU
      go_wp2
      go_ret2
      exact ⟨V2, HK.out.1, HK.out.2.1, HK.out.2.2.1, HK.out.2.2.2.1, .inl ⟨0, f, rfl, HK.out.2.2.2.2⟩⟩
    · have HK := hide (show PO w2 B D Gp V2 C K pk m ∧ St2 w w2 B V V2 ∧ V2.P.pages = V.P.pages ∧ V2.P.free = V.P.free ∧ V2.S.down = true from ⟨k1, HS1.out.trans k2, k3, k4, k6⟩)
      clear k1 k2 k3 k4 k5 k6 HU
      go_wp2
      go_ret2
      exact ⟨V2, HK.out.1, HK.out.2.1, HK.out.2.2.1, HK.out.2.2.2.1, .inr ⟨rfl, HK.out.2.2.2.2⟩⟩
  · obtain ⟨k, hk⟩ : ∃ k, ls.length = k + 1 := ⟨ls.length - 1, by
      cases ls with
      | nil => exact absurd rfl hl
      | cons x r => simp⟩
    obtain ⟨g, cap, hv, hg1, hg2, hg3, hg4, hg5, hg6⟩ := holds_of_ownsRow q3 (fun e => by injection e with _ e _; omega)
    injection hv with ea _ ec
    subst ea ec
    have hkl : k + 1 ≤ 64 := by
      have h1 := nodup_len (l := V.P.order) q1 (fun x hx => (HP1.out.pi.keys x).2 (by obtain ⟨f, hf, _⟩ := isD_some ((q2 x).1 hx); rw [hf]; rfl))
      have := HP1.out.pi.most
      omega
    have HR1 := hide (q3)
    have HM1 := hide (show ls.Nodup ∧ ∀ x, isD V.P x = true ↔ x ∈ ls from ⟨q1, fun x => (q2 x).symm⟩)
    have hne2 : (((k : Int) + 1) == 0) = false := by simp; omega
    have hcap : (k : Int) ≤ (c : Int) := by omega
    rw [hk]
    clear q1 q2 q3 q4 hl hg5 hg6 hg3 hg4
    go_wp2_with fail
    go_loopw [29] (fun u wr => ∃ (i : Nat) (Vi : PV), u = .int .i64 (i : Int) ∧ i ≤ k ∧ Hid (PO wr B D Gp Vi C K pk m) ∧ Hid (St2 w wr B V Vi) ∧ Hid (Vi.P.pages = V.P.pages ∧ Vi.P.free = V.P.free ∧ ∀ x, isD Vi.P x = true ↔ x ∈ ls.drop i) ∧ Hid (wr.ownsRow w.heap.size 3 1 (.slice (some ⟨g, 0, none⟩) ls.length c) ls.length (ls.map (Value.int .i64)))) (fun u _ => k - (intOf u).toNat)
    case atStart => exact ⟨0, V, rfl, Nat.zero_le _, HP1, HS1, hide ⟨rfl, rfl, by rw [List.drop_zero]; exact HM1.out.2⟩, HR1⟩
    case round =>
      obtain ⟨i, Vi, rfl, hik, HPi, HSi, HKi, HRi⟩ := hrel
      obtain ⟨g', cap', hv', t1, t2, t3, t4, t5, t6⟩ := holds_of_ownsRow HRi.out (fun e => by injection e with e _ _; cases e)
      injection hv' with ea' _ ec'
      injection ea' with ea'
      injection ea' with ea' _ _
      subst ea' ec'
      by_cases hlt : i < k
      · have hx := holds_cell t6 i (by omega)
        rw [getD_at (show i < ls.length by omega)] at hx
        have hlt' : (i : Int) < (k : Int) := by omega
        obtain ⟨f, hf, hd⟩ := isD_some ((HKi.out.2.2 ls[i]).2 (by rw [List.drop_eq_getElem_cons (show i < ls.length by omega)]; exact List.mem_cons_self ..))
        have HT := hide (ctoLog HPi.out hm ls[i] f hf hd)
        have HST := hide (fun (P' : PS) (hP : P'.fs = updR Vi.P.fs ls[i] { f with dirty := false }) => drop_step (P' := P') HM1.out.1 (show i < ls.length by omega) HKi.out.2.2 hP)
        generalize ls[i] = x at *
        clear t1 t2 t3 t4 t5 t6 hf hd
        go_wp2_with fail
        refine HT.out.mono ?_
        rintro e w3 ⟨V3, j1, j2, j3, -, (⟨rfl, j4⟩ | ⟨rfl, j4, j5⟩)⟩
        · have HP3 := hide (j1)
          have HS3 := hide (HSi.out.trans j2)
          have HK3 := hide (show V3.P.pages = V.P.pages ∧ V3.P.free = V.P.free ∧ ∀ x, isD V3.P x = true ↔ x ∈ ls.drop (i + 1) from ⟨by rw [j4]; exact HKi.out.1, by rw [j4]; exact HKi.out.2.1, HST.out V3.P (by rw [j4])⟩)
          have HR3 := hide (show w3.ownsRow w.heap.size 3 1 (.slice (some ⟨g, 0, none⟩) ls.length c) ls.length (ls.map (Value.int .i64)) from row_keep HRi.out fun g' hg' => by
            rcases HRi.out.2 with ⟨e0, _⟩ | ⟨g2, cap2, cur2, e0, _, hgg, _⟩
            · cases e0
            · rw [e0] at hg'
              injection hg' with hg'
              have hg' : g2 = g' := hg'
              subst hg'
              exact j3 g2 cur2 hgg)
          clear j1 j2 j3 j4 HT HST
          go_wp2_with fail
          go_roundw
          case rel => exact ⟨i + 1, V3, by go_num, by omega, HP3, HS3, HK3, HR3⟩
          case measure => simp [intOf]; omega
        · have HK := hide (show PO w3 B D Gp V3 C K pk m ∧ St2 w w3 B V V3 ∧ V3.P.pages = V.P.pages ∧ V3.P.free = V.P.free ∧ V3.S.down = true from ⟨j1, HSi.out.trans j2, by rw [j5]; exact HKi.out.1, by rw [j5]; exact HKi.out.2.1, j4⟩)
          clear j1 j2 j3 j4 j5 HT HST
          go_wp2
          go_ret2
          exact ⟨V3, HK.out.1, HK.out.2.1, HK.out.2.2.1, HK.out.2.2.2.1, .inr ⟨rfl, HK.out.2.2.2.2⟩⟩
      · obtain rfl : i = k := by omega
        have hx := holds_cell t6 i (by omega)
        rw [getD_at (show i < ls.length by omega)] at hx
        have hdr : ls.drop i = [ls[i]] := by
          rw [List.drop_eq_getElem_cons (show i < ls.length by omega), List.drop_of_length_le (by omega)]
        obtain ⟨f, hf, hd⟩ := isD_some ((HKi.out.2.2 ls[i]).2 (by rw [hdr]; exact List.mem_cons_self ..))
        have HK := hide (show Vi.P.fs ls[i] = some f ∧ ∀ x, isD Vi.P x = true → x = ls[i] from ⟨hf, fun x hx => by have := (HKi.out.2.2 x).1 hx; rw [hdr] at this; exact List.mem_singleton.1 this⟩)
        generalize ls[i] = x at *
        clear t1 t2 t3 t4 t5 t6 hf hd hdr
        go_wp2
        go_ret2
        exact ⟨Vi, HPi.out, HSi.out, HKi.out.1, HKi.out.2.1, .inl ⟨x, rfl, ⟨f, HK.out.1⟩, HK.out.2⟩⟩
end Go.Proofs.YtfbankloclhplacGreat
