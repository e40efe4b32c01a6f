/- Append, Back, Commit of a log, and what a crash behind them leaves: plain facts -/
import Derived.Test.YtfjkockcgddgbaaWalV
namespace Go.Proofs.Ytfjkockcgddgbaa
/- Append, Back, Commit of a log, and what a crash behind them leaves: plain facts -/
theorem op_two {S : DS} (hd : S.down = false) {f p : Int} (f' p' : Nat) (t : ByteArray) (c : Bool) (hf : f = f') (hp : p = p') (hf2 : f' < 2) (hs : p' + t.size ≤ 67108864) :
    opD S f p t c = (2, { S with down := true }) ∨ ∃ left, opD S f p t c = (0, ⟨updF S.lb (2 * f') (onL p' t c (S.lb (2 * f'))), S.ws ++ [⟨f', p', t, c⟩], left, S.count + 1, false⟩) := by
  subst hf hp
  have ha : askE f' p' t.size S.down = 0 := by
    unfold askE fitsD
    rw [hd, if_pos (by simp; omega)]
    rfl
  unfold opD
  rw [if_pos ha]
  by_cases hl : S.left = 0
  · rw [if_pos hl]; exact .inl rfl
  · rw [if_neg hl]; exact .inr ⟨decL S.left, by rw [hd]; rfl⟩
theorem syn_two {S : DS} (hd : S.down = false) {f : Int} (f' : Nat) (hf : f = f') (hf2 : f' < 2) :
    synD S f = (2, { S with down := true }) ∨ ∃ left, synD S f = (0, ⟨updF S.lb (2 * f' + 1) (foldF f' S.ws (S.lb (2 * f' + 1))), othF f' S.ws, left, S.count + 1, false⟩) := by
  subst hf
  have ha : askE f' 0 0 S.down = 0 := by
    unfold askE fitsD
    rw [hd, if_pos (by simp; omega)]
    rfl
  unfold synD
  rw [if_pos ha]
  by_cases hl : S.left = 0
  · rw [if_pos hl]; exact .inl rfl
  · rw [if_neg hl]; exact .inr ⟨decL S.left, by rw [hd]; rfl⟩
theorem oth_none {a : Nat} {ws : List Chg} (h : Wt a noK ws) : othF 1 ws = [] := by
  unfold othF
  rw [List.filter_eq_nil_iff]
  intro x hx
  rcases h x hx with h | ⟨_, _, ⟨n, hn, _⟩, _⟩ | ⟨_, _, _, n, hn⟩
  · rw [h.1]; decide
  · cases hn
  · cases hn
/- a log ahead of a slot's write -/
structure Pre (c : Cm) (S : DS) (a : Nat) : Prop where
  tp : TP (S.lb 3) c
  seen : S.lb 2 = foldF 1 S.ws (S.lb 3)
  wait : Wt a noK S.ws
  up : S.down = false
theorem tl_out {L : LS} {S : DS} {fr pg a : Nat} {F F' : Int → Option ByteArray} (h : Pre L.last S a) (h1 : 64 + 1028 * L.last.frames ≤ a) (h2 : 64 + 1028 * fr ≤ a) (hf1 : fr < 4294967296) (hp1 : pg < 4294967296) (hf : fr = 0 ∨ 64 + 1028 * fr ≤ (S.lb 3).length) (hv : Vw (S.lb 1) (S.lb 3) L.last.frames F) (hv' : Vw (S.lb 1) (S.lb 3) fr F') :
    (∃ S', tlL L S fr pg = (2, L, S') ∧ S'.down = true ∧ CrOr S' F F') ∨
    (∃ S', tlL L S fr pg = (0, { L with last := flC L.last fr pg, fr := fr }, S') ∧ S'.lb 0 = S.lb 0 ∧ S'.lb 1 = S.lb 1 ∧ S'.lb 3 = S'.lb 2 ∧ S'.ws = [] ∧ S'.down = false ∧ TP (S'.lb 3) (flC L.last fr pg) ∧ (∀ j, 64 ≤ j → j < a → bL (S'.lb 3) j = bL (S.lb 3) j) ∧ (S.lb 3).length ≤ (S'.lb 3).length) := by
  have hs := h.tp.slot
  have hts := txtB_size (nxN L.last.number) fr pg
  have hE : EffL a (S.lb 3) (S.lb 2) := by rw [h.seen]; exact fold_eff h.wait _
  unfold tlL
  rcases op_two h.up 1 (16 + 24 * (1 - L.last.slot)) (txtB (nxN L.last.number) fr pg) false (f := 1) (p := 16 + 24 * ((1 - L.last.slot : Nat) : Int)) rfl (by omega) (by decide) (by omega) with e | ⟨left, e⟩
  · rw [e]
    refine .inl ⟨_, rfl, rfl, CrOK.or ?_ F'⟩
    refine CrOK.same (S := S) ?_ rfl rfl
    refine crash_wt h.tp hv ?_
    intro x hx
    exact (Wt.more h.wait x hx).elim (fun k => .inl ⟨k.1, k.2.1, by omega⟩) .inr
  · rw [e, if_pos rfl]
    obtain ⟨T, hT⟩ : ∃ T : DS, T = ⟨updF S.lb (2 * 1) (onL (16 + 24 * (1 - L.last.slot)) (txtB (nxN L.last.number) fr pg) false (S.lb (2 * 1))), S.ws ++ [⟨1, 16 + 24 * (1 - L.last.slot), txtB (nxN L.last.number) fr pg, false⟩], left, S.count + 1, false⟩ := ⟨_, rfl⟩
    rw [← hT]
    have t0 : T.lb 0 = S.lb 0 := by rw [hT]; rfl
    have t1 : T.lb 1 = S.lb 1 := by rw [hT]; rfl
    have t2 : T.lb 2 = onL (16 + 24 * (1 - L.last.slot)) (txtB (nxN L.last.number) fr pg) false (S.lb 2) := by rw [hT]; rfl
    have t3 : T.lb 3 = S.lb 3 := by rw [hT]; rfl
    have tw : T.ws = S.ws ++ [⟨1, 16 + 24 * (1 - L.last.slot), txtB (nxN L.last.number) fr pg, false⟩] := by rw [hT]
    have td : T.down = false := by rw [hT]
    clear hT e
    show (∃ S', (if (synD T 1).1 = 0 then _ else _) = _ ∧ _) ∨ (∃ S', (if (synD T 1).1 = 0 then _ else _) = _ ∧ _)
    rcases syn_two td 1 (f := 1) rfl (by decide) with e | ⟨left', e⟩
    · rw [e]
      refine .inl ⟨_, rfl, rfl, ?_⟩
      have := crash_slot (S := T) (c := L.last) (F := F) (F' := F') (by rw [t3]; exact h.tp) tw h.wait h1 h2 hf1 hp1 (by rw [t3]; exact hf) (by rw [t1, t3]; exact hv) (by rw [t1, t3]; exact hv')
      exact this
    · rw [e, if_pos rfl]
      refine .inr ⟨_, rfl, t0, t1, ?_, ?_, rfl, ?_, ?_, ?_⟩
      all_goals dsimp only
      all_goals try rw [show updF T.lb (2 * 1 + 1) (foldF 1 T.ws (T.lb (2 * 1 + 1))) 3 = T.lb 2 by rw [show (2 * 1 + 1) = 3 from rfl, updF_at, tw, t3, foldF_snoc, if_pos rfl, t2, h.seen]]
      · rfl
      · rw [tw, othF_snoc, if_pos rfl, oth_none h.wait]
      · rw [t2]
        exact (h.tp.eff hE (by omega)).whole fr pg hf1 hp1 (hf.imp id fun k => Nat.le_trans k hE.len)
      · intro j j1 j2
        rw [t2, onL_get, if_neg (by omega)]
        exact hE.same j j2
      · rw [t2]
        exact Nat.le_trans hE.len onL_ge
structure Inv (L : LS) (S : DS) (kept now : Int → Option ByteArray) (m : Nat) : Prop where
  fr : L.last.frames ≤ L.fr ∧ L.fr ≤ m
  len : L.fr = 0 ∨ 64 + 1028 * L.fr ≤ (S.lb 2).length
  pre : Pre L.last S (64 + 1028 * L.last.frames)
  f0 : S.lb 0 = S.lb 1
  pages : L.last.pages = 6 ∨ L.last.frames = 0
  pl : L.pl = fndM (S.lb 3) noM L.last.frames
  al : mrg L.pl L.fh = fndM (S.lb 2) noM L.fr
  fh : ∀ x v, L.fh x = some v → (L.last.frames : Int) ≤ v ∧ v < L.fr
  keys : ∀ x v, fndM (S.lb 2) noM L.fr x = some v → 0 ≤ x ∧ x < 6
  kv : Vw (S.lb 1) (S.lb 3) L.last.frames kept
  nv : Vw (S.lb 1) (S.lb 2) L.fr now
theorem Inv.eff {L : LS} {S : DS} {kept now : Int → Option ByteArray} {m : Nat} (h : Inv L S kept now m) : EffL (64 + 1028 * L.last.frames) (S.lb 3) (S.lb 2) := by rw [h.pre.seen]; exact fold_eff h.pre.wait _
theorem Inv.crash {L : LS} {S : DS} {kept now : Int → Option ByteArray} {m : Nat} (h : Inv L S kept now m) : CrOK S kept := crash_wt h.pre.tp h.kv (Wt.more h.pre.wait)
theorem Inv.mono {L : LS} {S : DS} {kept now : Int → Option ByteArray} {m k : Nat} (h : Inv L S kept now m) (hk : m ≤ k) : Inv L S kept now k := ⟨⟨h.fr.1, Nat.le_trans h.fr.2 hk⟩, h.len, h.pre, h.f0, h.pages, h.pl, h.al, h.fh, h.keys, h.kv, h.nv⟩
theorem Inv.left {L : LS} {S : DS} {kept now : Int → Option ByteArray} {m : Nat} (h : Inv L S kept now m) (n : Int) : Inv L { S with left := n } kept now m := ⟨h.fr, h.len, ⟨h.pre.tp, h.pre.seen, h.pre.wait, h.pre.up⟩, h.f0, h.pages, h.pl, h.al, h.fh, h.keys, h.kv, h.nv⟩
theorem Inv.pos {L : LS} {S : DS} {kept now : Int → Option ByteArray} {m : Nat} (h : Inv L S kept now m) (x : Int) (hx : (L.pl x).isSome = true) : 0 ≤ x ∧ x < 6 := by
  have : (mrg L.pl L.fh x).isSome = true := by
    unfold mrg
    cases L.fh x with
    | some v => rfl
    | none => exact hx
  rw [h.al] at this
  obtain ⟨v, hv⟩ := Option.isSome_iff_exists.1 this
  exact h.keys x v hv
theorem Inv.posF {L : LS} {S : DS} {kept now : Int → Option ByteArray} {m : Nat} (h : Inv L S kept now m) (x : Int) (hx : (L.fh x).isSome = true) : 0 ≤ x ∧ x < 6 := by
  obtain ⟨v, hv⟩ := Option.isSome_iff_exists.1 hx
  have : mrg L.pl L.fh x = some v := by unfold mrg; rw [hv]
  rw [h.al] at this
  exact h.keys x v this
theorem Inv.okp {L : LS} {S : DS} {kept now : Int → Option ByteArray} {m : Nat} (h : Inv L S kept now m) (hm : m ≤ 1000000) : okM L.pl := fun x v hv => by
  rw [h.pl] at hv
  have := fndM_lt hv
  have := h.fr
  omega
theorem Inv.okf {L : LS} {S : DS} {kept now : Int → Option ByteArray} {m : Nat} (h : Inv L S kept now m) (hm : m ≤ 1000000) : okM L.fh := fun x v hv => by
  have := h.fh x v hv
  have := h.fr
  omega
theorem ap_out {L : LS} {S : DS} {kept now : Int → Option ByteArray} {m n : Nat} {t : ByteArray} (h : Inv L S kept now m) (hm : m ≤ 60000) (hn : n < 6) (ht : t.size = 1024) :
    (∃ S', apL L S n t = (2, L, S') ∧ S'.down = true ∧ CrOK S' kept) ∨ (∃ S', apL L S n t = (0, { L with fh := updM L.fh n L.fr, fr := L.fr + 1 }, S') ∧ Inv { L with fh := updM L.fh n L.fr, fr := L.fr + 1 } S' kept (wth now n t) (m + 1)) := by
  have hfr := h.fr
  have hs : (fourB n ++ t).size = 1028 := by rw [ByteArray.size_append, fourB_size, ht]
  have hpg : isPg n = true := decide_eq_true (by omega)
  unfold apL
  rw [if_neg (fun k => k ⟨hpg, ht⟩), if_neg (by omega), Int.toNat_natCast]
  rcases op_two h.pre.up 1 (64 + 1028 * L.fr) (fourB n ++ t) false (f := 1) (p := 64 + 1028 * (L.fr : Int)) rfl (by omega) (by decide) (by omega) with e | ⟨left, e⟩
  · rw [e]
    exact .inl ⟨_, rfl, rfl, h.crash.same rfl rfl⟩
  · rw [e, if_pos rfl]
    refine .inr ⟨_, rfl, ?_⟩
    have hE := h.eff
    have e2 := fndM_new (log := S.lb 2) (k := L.fr) ht (n := n) (by omega)
    refine ⟨⟨by show L.last.frames ≤ L.fr + 1; omega, by show L.fr + 1 ≤ m + 1; omega⟩, .inr ?_, ⟨h.pre.tp, ?_, ?_, rfl⟩, h.f0, h.pages, h.pl, ?_, ?_, ?_, h.kv, h.nv.append ht hn⟩
    · show 64 + 1028 * (L.fr + 1) ≤ (onL (64 + 1028 * L.fr) (fourB n ++ t) false (S.lb 2)).length
      rw [onL_len, hs]
      simp
      omega
    · show onL (64 + 1028 * L.fr) (fourB n ++ t) false (S.lb 2) = foldF 1 (S.ws ++ [_]) (S.lb 3)
      rw [foldF_snoc, if_pos rfl, h.pre.seen]
    · exact Wt.snoc h.pre.wait (.inl ⟨rfl, rfl, by show 64 + 1028 * L.last.frames ≤ 64 + 1028 * L.fr; omega⟩)
    · show mrg L.pl (updM L.fh n L.fr) = fndM (onL (64 + 1028 * L.fr) (fourB n ++ t) false (S.lb 2)) noM (L.fr + 1)
      rw [e2, ← h.al]
      funext x
      unfold mrg updM
      by_cases hx : x = (n : Int)
      · rw [if_pos hx, if_pos hx]
      · rw [if_neg hx, if_neg hx]
    · intro x v hv
      have hv : updM L.fh n L.fr x = some v := hv
      unfold updM at hv
      show (L.last.frames : Int) ≤ v ∧ v < ((L.fr + 1 : Nat) : Int)
      split at hv
      · injection hv with hv
        omega
      · have := h.fh x v hv
        omega
    · intro x v hv
      have hv : fndM (onL (64 + 1028 * L.fr) (fourB n ++ t) false (S.lb 2)) noM (L.fr + 1) x = some v := hv
      rw [e2] at hv
      unfold updM at hv
      split at hv
      · omega
      · exact h.keys x v hv
theorem bk_out {L : LS} {S : DS} {kept now : Int → Option ByteArray} {m : Nat} (h : Inv L S kept now m) : Inv (bkL L) S kept kept m := by
  have hE := h.eff
  have hfr := h.fr
  have e1 : fndM (S.lb 2) noM L.last.frames = L.pl := by rw [h.pl]; exact fndM_same (fun j _ j2 => hE.same j j2)
  have e2 : mrg L.pl (fun _ => none) = L.pl := by funext x; rfl
  refine ⟨⟨Nat.le_refl _, by show L.last.frames ≤ m; omega⟩, ?_, h.pre, h.f0, h.pages, h.pl, ?_, (fun x v hv => by cases hv), ?_, h.kv, ?_⟩
  · show L.last.frames = 0 ∨ 64 + 1028 * L.last.frames ≤ _
    have := h.len
    omega
  · show mrg L.pl (fun _ => none) = fndM (S.lb 2) noM L.last.frames
    rw [e1, e2]
  · intro x v hv
    have hv : fndM (S.lb 2) noM L.last.frames x = some v := hv
    rw [e1] at hv
    exact h.pos x (by rw [hv]; rfl)
  · exact h.kv.keep (fun j _ j2 => hE.same j j2) (fun n _ _ => PgK.refl _ n)
theorem cm_out {L : LS} {S : DS} {kept now : Int → Option ByteArray} {m n : Nat} {t : ByteArray} (h : Inv L S kept now m) (hm : m ≤ 60000) (hn : n < 6) (ht : t.size = 1024) :
    (∃ L' S', cmL L S n t 6 = (2, L', S') ∧ S'.down = true ∧ CrOr S' kept (wth now n t)) ∨ (∃ L' S', cmL L S n t 6 = (0, L', S') ∧ Inv L' S' (wth now n t) (wth now n t) (m + 1)) := by
  unfold cmL
  rw [if_neg (fun k => k ⟨by decide, by decide⟩)]
  rcases ap_out h hm hn ht with ⟨S1, e1, d1, c1⟩ | ⟨S1, e1, I1⟩
  · rw [e1]
    exact .inl ⟨_, _, rfl, d1, c1.or _⟩
  · generalize hL1 : ({ L with fh := updM L.fh n L.fr, fr := L.fr + 1 } : LS) = L1 at e1 I1
    have hp : L.pl = L1.pl := by rw [← hL1]
    rw [e1, if_neg (fun k => k rfl), hp]
    clear hp hL1 e1 h
    show (∃ L' S', (if ¬ (synD S1 1).1 = 0 then ((synD S1 1).1, L1, (synD S1 1).2) else if ¬ (tlL L1 (synD S1 1).2 L1.fr (6 : Int).toNat).1 = 0 then tlL L1 (synD S1 1).2 L1.fr (6 : Int).toNat else (0, { (tlL L1 (synD S1 1).2 L1.fr (6 : Int).toNat).2.1 with pl := mrg L1.pl L1.fh, fh := fun _ => none }, (tlL L1 (synD S1 1).2 L1.fr (6 : Int).toNat).2.2)) = _ ∧ _) ∨ (∃ L' S', (if ¬ (synD S1 1).1 = 0 then ((synD S1 1).1, L1, (synD S1 1).2) else if ¬ (tlL L1 (synD S1 1).2 L1.fr (6 : Int).toNat).1 = 0 then tlL L1 (synD S1 1).2 L1.fr (6 : Int).toNat else (0, { (tlL L1 (synD S1 1).2 L1.fr (6 : Int).toNat).2.1 with pl := mrg L1.pl L1.fh, fh := fun _ => none }, (tlL L1 (synD S1 1).2 L1.fr (6 : Int).toNat).2.2)) = _ ∧ _)
    have hfr := I1.fr
    have hE := I1.eff
    rcases syn_two I1.pre.up 1 (f := 1) rfl (by decide) with e | ⟨left, e⟩
    · rw [e]
      exact .inl ⟨_, _, rfl, rfl, (I1.crash.same rfl rfl).or _⟩
    · generalize hS2 : (⟨updF S1.lb (2 * 1 + 1) (foldF 1 S1.ws (S1.lb (2 * 1 + 1))), othF 1 S1.ws, left, S1.count + 1, false⟩ : DS) = S2 at e
      rw [e, if_neg (fun k => k rfl)]
      have s0 : S2.lb 0 = S1.lb 0 := by rw [← hS2]; rfl
      have s1 : S2.lb 1 = S1.lb 1 := by rw [← hS2]; rfl
      have s2 : S2.lb 2 = S1.lb 2 := by rw [← hS2]; rfl
      have s3 : S2.lb 3 = S1.lb 2 := by rw [← hS2, I1.pre.seen]; rfl
      have sw : S2.ws = [] := by rw [← hS2]; exact oth_none I1.pre.wait
      have sd : S2.down = false := by rw [← hS2]
      clear hS2 e
      have hlen := I1.len
      rcases tl_out (L := L1) (S := S2) (fr := L1.fr) (pg := (6 : Int).toNat) (a := 64 + 1028 * L1.fr) (F := kept) (F' := wth now n t) ⟨by rw [s3]; exact I1.pre.tp.eff hE (by omega), by rw [sw, s2, s3]; rfl, by rw [sw]; exact Wt.nil _ _, sd⟩ (by omega) (by omega) (by omega) (by decide) (by rw [s3]; exact hlen)
        (by rw [s1, s3]; exact I1.kv.keep (fun j _ j2 => hE.same j j2) (fun n _ _ => PgK.refl _ n)) (by rw [s1, s3]; exact I1.nv) with ⟨S3, e3, d3, c3⟩ | ⟨S3, e3, k0, k1, k2, k3, k4, k5, k6, k7⟩
      · rw [e3]
        exact .inl ⟨_, _, rfl, d3, c3⟩
      · rw [e3, if_neg (fun k => k rfl)]
        refine .inr ⟨_, _, rfl, ?_⟩
        have eL : fndM (S3.lb 3) noM L1.fr = fndM (S1.lb 2) noM L1.fr := fndM_same (fun j j1 j2 => by rw [k6 j j1 j2, s3])
        have hV : Vw (S3.lb 1) (S3.lb 3) L1.fr (wth now n t) := by
          rw [k1, s1]
          exact I1.nv.keep (fun j j1 j2 => by rw [k6 j j1 j2, s3]) (fun n _ _ => PgK.refl _ n)
        refine ⟨⟨Nat.le_refl _, hfr.2⟩, ?_, ⟨k5, by rw [k3, ← k2]; rfl, by rw [k3]; exact Wt.nil _ _, k4⟩, by rw [k0, k1, s0, s1]; exact I1.f0, .inl rfl, ?_, ?_, (fun x v hv => by cases hv), ?_, hV, by rw [← k2]; exact hV⟩
        · show L1.fr = 0 ∨ 64 + 1028 * L1.fr ≤ (S3.lb 2).length
          rw [← k2]
          rw [s3] at k7
          omega
        · show mrg L1.pl L1.fh = fndM (S3.lb 3) noM L1.fr
          rw [eL]; exact I1.al
        · show mrg (mrg L1.pl L1.fh) (fun _ => none) = fndM (S3.lb 2) noM L1.fr
          rw [← k2, eL, ← I1.al]
          funext x
          rfl
        · intro x v hv
          have hv : fndM (S3.lb 2) noM L1.fr x = some v := hv
          rw [← k2, eL] at hv
          exact I1.keys x v hv
end Go.Proofs.Ytfjkockcgddgbaa
