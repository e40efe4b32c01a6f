/- Checkpoint of a log, and what a crash behind it leaves: plain facts -/
import Derived.Test.YtfjkockcgddgbaaWalW
namespace Go.Proofs.Ytfjkockcgddgbaa
/- Checkpoint of a log, and what a crash behind it leaves; a new log; a log that is opened anew: plain facts -/
/- pages that the log holds -/
def inK (S : DS) (c : Cm) : Nat → Prop := fun n => ¬ fndM (S.lb 3) noM c.frames n = none
structure St (c : Cm) (S0 : DS) (done : Int → Prop) (T : DS) : Prop where
  l1 : T.lb 1 = S0.lb 1
  l2 : T.lb 2 = S0.lb 2
  l3 : T.lb 3 = S0.lb 3
  up : T.down = false
  wait : Wt (64 + 1028 * c.frames) (inK S0 c) T.ws
  oth : othF 0 T.ws = S0.ws
  fold : T.lb 0 = foldF 0 T.ws (T.lb 1)
  page : ∀ n, n < 6 → ¬ inK S0 c n → PgK (S0.lb 1) (T.lb 0) n
  set : ∀ (n : Nat) (v : Int), n < 6 → done n → fndM (S0.lb 3) noM c.frames n = some v → 1024 * (n + 1) ≤ (T.lb 0).length ∧ ∀ i, i < 1024 → bL (T.lb 0) (1024 * n + i) = bL (S0.lb 3) (64 + 1028 * v.toNat + 4 + i)
theorem St.crash {c : Cm} {S0 T T' : DS} {done : Int → Prop} {F : Int → Option ByteArray} (h : St c S0 done T) (ht : TP (S0.lb 3) c) (hv : Vw (S0.lb 1) (S0.lb 3) c.frames F) (e1 : T'.lb = T.lb) (e2 : T'.ws = T.ws) : CrOK T' F :=
  CrOK.same (crash_wt (S := T) (by rw [h.l3]; exact ht) (by rw [h.l1, h.l3]; exact hv) (by rw [h.l3]; exact h.wait)) e1 e2
theorem fold_other : ∀ {ws : List Chg} {f : Nat}, (∀ x ∈ ws, ¬ x.f = f) → ∀ l, foldF f ws l = l
  | [], _, _, _ => rfl
  | x :: r, f, h, l => by
    show foldF f r (if x.f = f then onL x.p x.t x.c l else l) = l
    rw [if_neg (h x (List.mem_cons_self ..))]
    exact fold_other (fun y hy => h y (List.mem_cons_of_mem _ hy)) l
theorem only_log {a : Nat} {ws : List Chg} (h : Wt a noK ws) : ∀ x ∈ ws, x.f = 1 := fun x hx => by
  rcases h x hx with h | ⟨_, _, ⟨n, hn, _⟩, _⟩ | ⟨_, _, _, n, hn⟩
  · exact h.1
  · cases hn
  · cases hn
theorem Inv.st {L : LS} {S : DS} {kept now : Int → Option ByteArray} {m : Nat} (h : Inv L S kept now m) : St L.last S (fun _ => False) S := by
  have ho := only_log h.pre.wait
  refine ⟨rfl, rfl, rfl, h.pre.up, Wt.more h.pre.wait, ?_, ?_, ?_, (fun n v _ hd => by cases hd)⟩
  · unfold othF
    rw [List.filter_eq_self]
    intro x hx
    rw [ho x hx]
    rfl
  · rw [fold_other (fun x hx e => by have := ho x hx; omega)]
    exact h.f0
  · intro n _ _
    rw [h.f0]
    exact PgK.refl _ n
/- one page is written to its place -/
theorem St.write {c : Cm} {S0 T : DS} {done : Int → Prop} (h : St c S0 done T) {n : Nat} {v : Int} {t : ByteArray} (hn : n < 6) (hv : fndM (S0.lb 3) noM c.frames n = some v) (hs : t.size = 1024) (hb : ∀ i, i < 1024 → bytS t i = (bL (S0.lb 3) (64 + 1028 * v.toNat + 4 + i)).toNat) (left count : Int) :
    St c S0 (fun x => done x ∨ x = n) ⟨updF T.lb (2 * 0) (onL (1024 * n) t false (T.lb (2 * 0))), T.ws ++ [⟨0, 1024 * n, t, false⟩], left, count, false⟩ := by
  have hK : inK S0 c n := fun e => by rw [hv] at e; cases e
  refine ⟨h.l1, h.l2, h.l3, rfl, h.wait.snoc (.inr (.inl ⟨rfl, rfl, ⟨n, hK, rfl⟩, Nat.le_of_eq hs⟩)), ?_, ?_, ?_, ?_⟩
  · show othF 0 (T.ws ++ [_]) = _
    rw [othF_snoc, if_pos rfl]; exact h.oth
  · show onL (1024 * n) t false (T.lb 0) = foldF 0 (T.ws ++ [_]) (T.lb 1)
    rw [foldF_snoc, if_pos rfl, ← h.fold]
  · intro m hm hk
    exact (h.page m hm hk).trans (pg_write (by omega) (fun e => hk (e ▸ hK)))
  · intro m u hm hd hu
    show 1024 * (m + 1) ≤ (onL (1024 * n) t false (T.lb 0)).length ∧ ∀ i, i < 1024 → bL (onL (1024 * n) t false (T.lb 0)) (1024 * m + i) = _
    by_cases e : m = n
    · subst e
      rw [hv] at hu
      injection hu with hu
      subst hu
      refine ⟨by rw [onL_len, hs]; simp; omega, fun i hi => ?_⟩
      rw [onL_get, if_pos (by omega)]
      have := hb i hi
      rw [← bytS_ll] at this
      rw [show 1024 * m + i - 1024 * m = i by omega]
      exact UInt8.toNat_inj.1 this
    · have hd : done m := by
        rcases hd with hd | hd
        · exact hd
        · exact absurd (by omega) e
      obtain ⟨s1, s2⟩ := h.set m u hm hd hu
      refine ⟨Nat.le_trans s1 onL_ge, fun i hi => ?_⟩
      rw [onL_get, if_neg (by omega)]
      exact s2 i hi
theorem St.cut {c : Cm} {S0 T : DS} {done : Int → Prop} (h : St c S0 done T) (hK : ∃ n, inK S0 c n) (left count : Int) :
    St c S0 done ⟨updF T.lb (2 * 0) (onL 6144 ⟨#[]⟩ true (T.lb (2 * 0))), T.ws ++ [⟨0, 6144, ⟨#[]⟩, true⟩], left, count, false⟩ := by
  refine ⟨h.l1, h.l2, h.l3, rfl, h.wait.snoc (.inr (.inr ⟨rfl, rfl, Nat.le_refl _, hK⟩)), ?_, ?_, ?_, ?_⟩
  · show othF 0 (T.ws ++ [_]) = _
    rw [othF_snoc, if_pos rfl]; exact h.oth
  · show onL 6144 ⟨#[]⟩ true (T.lb 0) = foldF 0 (T.ws ++ [_]) (T.lb 1)
    rw [foldF_snoc, if_pos rfl, ← h.fold]
  · intro m hm hk
    exact (h.page m hm hk).trans (pg_cut (Nat.le_refl _) hm)
  · intro m u hm hd hu
    obtain ⟨s1, s2⟩ := h.set m u hm hd hu
    show 1024 * (m + 1) ≤ (onL 6144 ⟨#[]⟩ true (T.lb 0)).length ∧ ∀ i, i < 1024 → bL (onL 6144 ⟨#[]⟩ true (T.lb 0)) (1024 * m + i) = _
    refine ⟨by rw [onL_len, if_pos rfl]; show _ ≤ 6144 + 0; omega, fun i hi => ?_⟩
    rw [cut_get (by show _ < 6144 + 0; omega)]
    exact s2 i hi
theorem stl_out {L : LS} {S0 : DS} {kept now : Int → Option ByteArray} {m : Nat} (h : Inv L S0 kept now m) (hp : L.last.pages = 6) (hz : (S0.lb 2).length ≤ 67108864) : ∀ (ks : List Int) (done : Int → Prop) (T : DS), St L.last S0 done T → (∀ x ∈ ks, (L.pl x).isSome = true) →
    (∃ T', stlK L ks T = (2, T') ∧ T'.down = true ∧ CrOK T' kept) ∨ (∃ T', stlK L ks T = (0, T') ∧ St L.last S0 (fun x => done x ∨ x ∈ ks) T')
  | [], done, T, hT, _ => .inr ⟨T, rfl, ⟨hT.l1, hT.l2, hT.l3, hT.up, hT.wait, hT.oth, hT.fold, hT.page, fun n v hn hd => hT.set n v hn (by rcases hd with hd | hd; exact hd; cases hd)⟩⟩
  | x :: r, done, T, hT, hks => by
    have hx := hks x (List.mem_cons_self ..)
    have h6 := h.pos x hx
    obtain ⟨n, rfl⟩ : ∃ n : Nat, x = n := ⟨x.toNat, by omega⟩
    obtain ⟨v, hv⟩ := Option.isSome_iff_exists.1 hx
    have hv0 := hv
    rw [h.pl] at hv
    have hlt := fndM_lt hv
    obtain ⟨w, rfl⟩ : ∃ w : Nat, v = w := ⟨v.toNat, by omega⟩
    have hfr := h.fr
    have hlen : 64 + 1028 * L.last.frames ≤ (S0.lb 2).length := by
      have := h.len
      omega
    have hR := rd_ok (lb := T.lb) (f := 1) (p := 64 + 1028 * w + 4) (n := 1024) (by decide) (by show _ ≤ (T.lb 2).length; rw [hT.l2]; omega) (by show (T.lb 2).length ≤ _; rw [hT.l2]; exact hz)
    have ec : ((64 + 1028 * w + 4 : Nat) : Int) = 64 + 1028 * (w : Int) + 4 := by omega
    obtain ⟨t, y, e2, hx', hy⟩ : ∃ t y, rdF T (w : Int) = (t, y) ∧ t = rdS ((1 : Nat) : Int) ((64 + 1028 * w + 4 : Nat) : Int) ((1024 : Nat) : Int) T.lb false ∧ y = rdE ((1 : Nat) : Int) ((64 + 1028 * w + 4 : Nat) : Int) ((1024 : Nat) : Int) T.lb false := by
      unfold rdF
      rw [hT.up, ec]
      exact ⟨_, _, rfl, rfl, rfl⟩
    rw [← hx', ← hy] at hR
    obtain ⟨r1, r2, r3⟩ := hR
    clear hx' hy
    subst r1
    have e2' : rdF T ((L.pl n).getD 0) = (t, 0) := by rw [hv0]; exact e2
    clear e2
    unfold stlK
    generalize rdF T ((L.pl n).getD 0) = z at e2'
    subst e2'
    rw [if_neg (by rw [hp]; omega), if_neg (fun k => k rfl)]
    dsimp only
    rcases op_two hT.up 0 (1024 * n) t false (f := 0) (p := 1024 * (n : Int)) rfl (by omega) (by decide) (by omega) with e | ⟨left, e⟩
    · rw [e, if_pos (by show ¬ (2 : Int) = 0; decide)]
      exact .inl ⟨_, rfl, rfl, hT.crash h.pre.tp h.kv rfl rfl⟩
    · have hS := hT.write (t := t) (n := n) (v := (w : Int)) (by omega) hv r2 (fun i hi => by
        rw [r3 i hi]
        show (bL (T.lb 2) _).toNat = _
        rw [hT.l2, Int.toNat_natCast]
        exact congrArg UInt8.toNat (h.eff.same _ (by omega))) left (T.count + 1)
      rw [e, if_neg (fun k => k rfl)]
      rcases stl_out h hp hz r _ _ hS (fun y hy => hks y (List.mem_cons_of_mem _ hy)) with k | ⟨T', k1, k2⟩
      · exact .inl k
      · refine .inr ⟨T', k1, ⟨k2.l1, k2.l2, k2.l3, k2.up, k2.wait, k2.oth, k2.fold, k2.page, fun n' v' hn hd => k2.set n' v' hn ?_⟩⟩
        rcases hd with hd | hd
        · exact .inl (.inl hd)
        · rcases List.mem_cons.1 hd with hd | hd
          · exact .inl (.inr hd)
          · exact .inr hd
theorem stlL_out {L : LS} {S : DS} {kept now : Int → Option ByteArray} {m : Nat} (h : Inv L S kept now m) (hpg : L.last.pages = 6) (hz : (S.lb 2).length ≤ 67108864) (ks : List Int) (hK : KeysOf L.pl ks) (hex : ∃ n, inK S L.last n) :
    (∃ T, stlL L S ks = (2, T) ∧ T.down = true ∧ CrOK T kept) ∨ (∃ T1 T2, stlL L S ks = (0, T2) ∧ St L.last S (fun x => False ∨ x ∈ ks) T1 ∧ T2.lb 0 = T1.lb 0 ∧ T2.lb 1 = T1.lb 0 ∧ T2.lb 2 = S.lb 2 ∧ T2.lb 3 = S.lb 3 ∧ T2.ws = S.ws ∧ T2.down = false) := by
  unfold stlL
  rcases stl_out h hpg hz ks _ S h.st (fun x hx => ((hK.mem x).1 hx).2) with ⟨T, e, d, c⟩ | ⟨T, e, hT⟩
  · rw [e, if_pos (by show ¬ (2 : Int) = 0; decide)]
    exact .inl ⟨_, rfl, d, c⟩
  · rw [e, if_neg (fun k => k rfl), hpg]
    rcases op_two hT.up 0 6144 ⟨#[]⟩ true (f := 0) (p := 1024 * ((6 : Nat) : Int)) rfl (by decide) (by decide) (by decide) with e1 | ⟨left, e1⟩
    · rw [e1, if_pos (by show ¬ (2 : Int) = 0; decide)]
      exact .inl ⟨_, rfl, rfl, hT.crash h.pre.tp h.kv rfl rfl⟩
    · have hT1 := hT.cut hex left (T.count + 1)
      generalize hg : (⟨updF T.lb (2 * 0) (onL 6144 ⟨#[]⟩ true (T.lb (2 * 0))), T.ws ++ [⟨0, 6144, ⟨#[]⟩, true⟩], left, T.count + 1, false⟩ : DS) = T1 at e1 hT1
      rw [e1, if_neg (fun k => k rfl)]
      clear hg e1 e hT
      rcases syn_two hT1.up 0 (f := 0) rfl (by decide) with e2 | ⟨left', e2⟩
      · rw [e2]
        exact .inl ⟨_, rfl, rfl, hT1.crash h.pre.tp h.kv rfl rfl⟩
      · generalize hg : (⟨updF T1.lb (2 * 0 + 1) (foldF 0 T1.ws (T1.lb (2 * 0 + 1))), othF 0 T1.ws, left', T1.count + 1, false⟩ : DS) = T2 at e2
        rw [e2]
        refine .inr ⟨T1, T2, rfl, hT1, ?_, ?_, ?_, ?_, ?_, ?_⟩
        · rw [← hg]; rfl
        · rw [← hg, hT1.fold]; rfl
        · rw [← hg, ← hT1.l2]; rfl
        · rw [← hg, ← hT1.l3]; rfl
        · rw [← hg]; exact hT1.oth
        · rw [← hg]
theorem ck_out {L : LS} {S : DS} {kept now : Int → Option ByteArray} {m : Nat} (h : Inv L S kept now m) (hz : (S.lb 2).length ≤ 67108864) (ks : List Int) (hks : L.fr = L.last.frames → ¬ L.fr = 0 → KeysOf L.pl ks) :
    (∃ S', ckL L S ks = (2, L, S') ∧ S'.down = true ∧ CrOK S' kept) ∨ (∃ r L' S', ckL L S ks = (r, L', S') ∧ (r = 0 ∨ r = 11) ∧ Inv L' S' kept now m) := by
  unfold ckL
  by_cases h1 : L.fr = L.last.frames
  · rw [if_neg (fun k => k h1)]
    by_cases h2 : L.fr = 0
    · rw [if_pos h2]
      exact .inr ⟨_, _, _, rfl, .inl rfl, h⟩
    · rw [if_neg h2]
      have hK := hks h1 h2
      have hfr := h.fr
      have hpg : L.last.pages = 6 := by have := h.pages; omega
      have hE := h.eff
      have hex : ∃ n, inK S L.last n := by
        refine ⟨frN (S.lb 3) (L.last.frames - 1), fun e => ?_⟩
        obtain ⟨k, hk⟩ : ∃ k, L.last.frames = k + 1 := ⟨L.last.frames - 1, by omega⟩
        rw [hk] at e
        have e : updM (fndM (S.lb 3) noM k) (frN (S.lb 3) k) k (frN (S.lb 3) k) = none := e
        unfold updM at e
        rw [if_pos rfl] at e
        cases e
      rcases stlL_out h hpg hz ks hK hex with ⟨T, e, d, c⟩ | ⟨T1, T2, e, hT1, s0, s1, s2, s3, sw, sd⟩
      · rw [e, if_pos (by show ¬ (2 : Int) = 0; decide)]
        exact .inl ⟨_, rfl, d, c⟩
      · rw [e, if_neg (fun k => k rfl), hpg]
        show (∃ S', (if ¬ (tlL L T2 0 6).1 = 0 then tlL L T2 0 6 else (0, { (tlL L T2 0 6).2.1 with pl := fun _ => none }, (tlL L T2 0 6).2.2)) = _ ∧ _) ∨ (∃ r L' S', (if ¬ (tlL L T2 0 6).1 = 0 then tlL L T2 0 6 else (0, { (tlL L T2 0 6).2.1 with pl := fun _ => none }, (tlL L T2 0 6).2.2)) = _ ∧ _)
        have hpk : ∀ n : Nat, n < 6 → fndM (S.lb 3) noM L.last.frames n = none → PgK (S.lb 1) (T1.lb 0) n := fun n hn k => hT1.page n hn (fun q => q k)
        have hset : ∀ (n : Nat) (v : Int), n < 6 → fndM (S.lb 3) noM L.last.frames n = some v → 1024 * (n + 1) ≤ (T1.lb 0).length ∧ ∀ i, i < 1024 → bL (T1.lb 0) (1024 * n + i) = bL (S.lb 3) (64 + 1028 * v.toNat + 4 + i) := fun n v hn hv =>
          hT1.set n v hn (.inr ((hK.mem n).2 ⟨by
            have hw : (Lit.int .i64 (n : Int)).wf = true := WalkArith.wf_i64 ⟨by omega, by omega⟩
            exact hw, by rw [h.pl, hv]; rfl⟩)) hv
        have hV0 : ∀ log', Vw (T2.lb 1) log' 0 kept := fun log' => by rw [s1]; exact h.kv.settled log' hset hpk
        have hN3 : Vw (S.lb 1) (S.lb 3) L.last.frames now := by
          have := h.nv
          rw [h1] at this
          exact this.keep (fun j _ j2 => (hE.same j j2).symm) (fun n _ _ => PgK.refl _ n)
        have hN0 : ∀ log', Vw (T2.lb 1) log' 0 now := fun log' => by rw [s1]; exact hN3.settled log' hset hpk
        rcases tl_out (L := L) (S := T2) (fr := 0) (pg := 6) (a := 64 + 1028 * L.last.frames) (F := kept) (F' := kept) ⟨by rw [s3]; exact h.pre.tp, by rw [s2, s3, sw]; exact h.pre.seen, by rw [sw]; exact h.pre.wait, sd⟩ (Nat.le_refl _) (by omega) (by decide) (by decide) (.inl rfl)
          (by rw [s1, s3]; exact h.kv.keep (fun _ _ _ => rfl) hpk) (hV0 _) with ⟨S3, e3, d3, c3⟩ | ⟨S3, e3, k0, k1, k2, k3, k4, k5, k6, k7⟩
        · rw [e3]
          exact .inl ⟨_, rfl, d3, fun fa => (c3 fa).elim id id⟩
        · rw [e3]
          simp only [not_true_eq_false, if_false]
          refine .inr ⟨_, _, _, rfl, .inl rfl, ?_⟩
          have hfh : L.fh = fun _ => none := by
            funext x
            cases hx : L.fh x with
            | none => rfl
            | some v => have := h.fh x v hx; omega
          refine ⟨⟨Nat.le_refl _, Nat.zero_le _⟩, .inl rfl, ⟨k5, by rw [k3, ← k2]; rfl, by rw [k3]; exact Wt.nil _ _, k4⟩, by rw [k0, k1, s0, s1], .inr rfl, rfl, ?_, ?_, (fun x v hv => by cases hv), by rw [k1]; exact hV0 _, by rw [k1]; exact hN0 _⟩
          · show mrg (fun _ => none) L.fh = fun _ => none
            rw [hfh]
            rfl
          · intro x v hv
            have hv : L.fh x = some v := hv
            rw [hfh] at hv
            cases hv
  · rw [if_pos h1]
    exact .inr ⟨_, _, _, rfl, .inr rfl, h⟩
end Go.Proofs.Ytfjkockcgddgbaa
