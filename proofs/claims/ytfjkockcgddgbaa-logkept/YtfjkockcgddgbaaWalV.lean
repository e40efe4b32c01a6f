/- what a crash leaves: plain facts -/
import Derived.Test.YtfjkockcgddgbaaWalU
namespace Go.Proofs.Ytfjkockcgddgbaa
/- what a crash leaves of a disk whose waiting changes touch neither the log's first bytes nor the pages that it lacks: plain facts -/
theorem cut_get {p : Nat} {t : ByteArray} {l : List UInt8} {i : Nat} (hi : i < p + t.size) : bL (onL p t true l) i = bL l i := by
  unfold onL
  rw [if_pos rfl, ← bL_fil l (p + t.size)]
  unfold bL
  rw [List.getElem?_take_of_lt hi]
structure EffL (a : Nat) (log log' : List UInt8) : Prop where
  same : ∀ i, i < a → bL log' i = bL log i
  len : log.length ≤ log'.length
  big : log' = log ∨ a ≤ log'.length
theorem EffL.refl (a : Nat) (log : List UInt8) : EffL a log log := ⟨fun _ _ => rfl, Nat.le_refl _, .inl rfl⟩
theorem EffL.trans {a : Nat} {l l' l'' : List UInt8} (h : EffL a l l') (k : EffL a l' l'') : EffL a l l'' := by
  refine ⟨fun i hi => (k.same i hi).trans (h.same i hi), Nat.le_trans h.len k.len, ?_⟩
  rcases k.big with e | e
  · rcases h.big with e' | e'
    · exact .inl (e.trans e')
    · exact .inr (by rw [e]; exact e')
  · exact .inr e
theorem eff_write {a p : Nat} (t : ByteArray) (l : List UInt8) (hp : a ≤ p) : EffL a l (onL p t false l) :=
  ⟨fun i hi => by rw [onL_get, if_neg (by omega)], onL_ge, .inr (by rw [onL_len]; simp; omega)⟩
theorem TP.eff {log log' : List UInt8} {c : Cm} {a : Nat} (h : TP log c) (he : EffL a log log') (ha : 64 ≤ a) : TP log' c := by
  refine h.keep (fun i hi => he.same i (by omega)) ?_ ?_
  · rcases he.big with e | e
    · rw [e]; exact h.len
    · exact .inr (by omega)
  · have := he.len
    rcases h.fits with e | e
    · exact .inl e
    · exact .inr (by omega)
/- a change that waits, behind a log's first a bytes or of the pages K -/
def WtC (a : Nat) (K : Nat → Prop) (x : Chg) : Prop :=
  (x.f = 1 ∧ x.c = false ∧ a ≤ x.p) ∨ (x.f = 0 ∧ x.c = false ∧ (∃ n, K n ∧ x.p = 1024 * n) ∧ x.t.size ≤ 1024) ∨ (x.f = 0 ∧ x.c = true ∧ 6144 ≤ x.p ∧ ∃ n, K n)
def Wt (a : Nat) (K : Nat → Prop) (ws : List Chg) : Prop := ∀ x ∈ ws, WtC a K x
theorem Wt.nil (a : Nat) (K : Nat → Prop) : Wt a K [] := fun _ h => by cases h
theorem Wt.snoc {a : Nat} {K : Nat → Prop} {ws : List Chg} (h : Wt a K ws) {x : Chg} (hx : WtC a K x) : Wt a K (ws ++ [x]) := fun y hy => by
  rcases List.mem_append.1 hy with hy | hy
  · exact h y hy
  · obtain rfl := List.mem_singleton.1 hy
    exact hx
def noK : Nat → Prop := fun _ => False
theorem Wt.more {a : Nat} {K : Nat → Prop} {ws : List Chg} (h : Wt a noK ws) : Wt a K ws := fun x hx => by
  rcases h x hx with h | ⟨_, _, ⟨n, hn, _⟩, _⟩ | h
  · exact .inl h
  · cases hn
  · obtain ⟨_, _, _, n, hn⟩ := h
    cases hn
theorem pg_write {P : List UInt8} {m n : Nat} {t : ByteArray} (ht : t.size ≤ 1024) (h : ¬ n = m) : PgK P (onL (1024 * m) t false P) n :=
  ⟨fun i hi => by rw [onL_get, if_neg (by omega)], fun hl => Nat.le_trans hl onL_ge⟩
theorem pg_cut {P : List UInt8} {p n : Nat} {t : ByteArray} (hp : 6144 ≤ p) (hn : n < 6) : PgK P (onL p t true P) n :=
  ⟨fun i hi => cut_get (by omega), fun _ => by rw [onL_len, if_pos rfl]; omega⟩
theorem WtC.page {a : Nat} {K : Nat → Prop} {x : Chg} (h : WtC a K x) (hf : x.f = 0) {t : ByteArray} (ht : t.size ≤ x.t.size) (P : List UInt8) {n : Nat} (hn : n < 6) (hK : ¬ K n) : PgK P (onL x.p t x.c P) n := by
  rcases h with ⟨h1, _⟩ | ⟨_, h2, ⟨m, hm, hp⟩, h4⟩ | ⟨_, h2, h3, _⟩
  · omega
  · rw [h2, hp]
    exact pg_write (by omega) (fun e => hK (e ▸ hm))
  · rw [h2]
    exact pg_cut h3 hn
theorem WtC.log {a : Nat} {K : Nat → Prop} {x : Chg} (h : WtC a K x) (hf : x.f = 1) (t : ByteArray) (l : List UInt8) : EffL a l (onL x.p t x.c l) := by
  rcases h with ⟨_, h2, h3⟩ | ⟨h1, _⟩ | ⟨h1, _⟩
  · rw [h2]; exact eff_write t l h3
  · omega
  · omega
theorem WtC.file {a : Nat} {K : Nat → Prop} {x : Chg} (h : WtC a K x) : x.f = 0 ∨ x.f = 1 := by
  rcases h with h | h | h
  · exact .inr h.1
  · exact .inl h.1
  · exact .inl h.1
structure CrE (a : Nat) (K : Nat → Prop) (lb l : Nat → List UInt8) : Prop where
  log : EffL a (lb 3) (l 3)
  page : ∀ n, n < 6 → ¬ K n → PgK (lb 1) (l 1) n
theorem CrE.refl (a : Nat) (K : Nat → Prop) (lb : Nat → List UInt8) : CrE a K lb lb := ⟨EffL.refl _ _, fun n _ _ => PgK.refl _ n⟩
theorem CrE.trans {a : Nat} {K : Nat → Prop} {l l' l'' : Nat → List UInt8} (h : CrE a K l l') (k : CrE a K l' l'') : CrE a K l l'' := ⟨h.log.trans k.log, fun n hn hK => (h.page n hn hK).trans (k.page n hn hK)⟩
theorem crS_eff {a : Nat} {K : Nat → Prop} {x : Chg} (h : WtC a K x) (fa : Int) (l : Nat → List UInt8) : CrE a K l (crS fa x l) := by
  have step : ∀ t : ByteArray, t.size ≤ x.t.size → CrE a K l (updF l (2 * x.f + 1) (onL x.p t x.c (l (2 * x.f + 1)))) := fun t ht => by
    rcases h.file with e | e
    · refine ⟨?_, fun n hn hK => ?_⟩
      · rw [e, updF_ne _ _ (by decide)]; exact EffL.refl _ _
      · have := h.page e ht (l 1) hn hK
        rw [e, updF_at]; exact this
    · refine ⟨?_, fun n hn hK => ?_⟩
      · have := h.log e t (l 3)
        rw [e, updF_at]; exact this
      · rw [e, updF_ne _ _ (by decide)]; exact PgK.refl _ n
  unfold crS
  split
  · exact step _ (Nat.le_refl _)
  · split
    · exact step _ (by rw [half_size]; omega)
    · exact CrE.refl _ _ _
theorem crL_eff {a : Nat} {K : Nat → Prop} {ws : List Chg} (h : Wt a K ws) (fa : Nat → Int) (lb : Nat → List UInt8) : ∀ i, i ≤ ws.length → CrE a K lb (crL fa ws lb i)
  | 0, _ => CrE.refl _ _ _
  | i + 1, hi => by
    rw [crL_succ (by omega)]
    exact (crL_eff h fa lb i (by omega)).trans (crS_eff (h _ (List.getElem_mem _)) _ _)
theorem crL_pre {fa : Nat → Int} {ws : List Chg} {x : Chg} {lb : Nat → List UInt8} : ∀ i, i ≤ ws.length → crL fa (ws ++ [x]) lb i = crL fa ws lb i
  | 0, _ => rfl
  | i + 1, hi => by
    rw [crL_succ (by rw [List.length_append]; omega), crL_succ (by omega), crL_pre i (by omega), List.getElem_append_left (by omega)]
theorem crL_snoc (fa : Nat → Int) (ws : List Chg) (x : Chg) (lb : Nat → List UInt8) : crL fa (ws ++ [x]) lb (ws ++ [x]).length = crS (fa ws.length) x (crL fa ws lb ws.length) := by
  rw [show (ws ++ [x]).length = ws.length + 1 by simp, crL_succ (by simp), crL_pre _ (Nat.le_refl _)]
  simp
/- what is seen of a log, where only such changes wait -/
theorem fold_eff {a : Nat} {K : Nat → Prop} : ∀ {ws : List Chg}, Wt a K ws → ∀ l, EffL a l (foldF 1 ws l)
  | [], _, l => EffL.refl _ _
  | x :: r, h, l => by
    have hr : Wt a K r := fun y hy => h y (List.mem_cons_of_mem _ hy)
    show EffL a l (foldF 1 r (if x.f = 1 then onL x.p x.t x.c l else l))
    refine EffL.trans ?_ (fold_eff hr _)
    split
    · rename_i e
      exact (h x (List.mem_cons_self ..)).log e _ _
    · exact EffL.refl _ _
/- the pages, and the bytes, that are left -/
structure GoodS (S : DS) (F : Int → Option ByteArray) (c : Cm) : Prop where
  tp : TP (S.lb 2) c
  vw : Vw (S.lb 0) (S.lb 2) c.frames F
  f0 : S.lb 1 = S.lb 0
  f1 : S.lb 3 = S.lb 2
  ws : S.ws = []
  down : S.down = false
def CrOK (S : DS) (F : Int → Option ByteArray) : Prop := ∀ fa, ∃ c, GoodS (crD fa S) F c
def CrOr (S : DS) (F F' : Int → Option ByteArray) : Prop := ∀ fa, (∃ c, GoodS (crD fa S) F c) ∨ ∃ c, GoodS (crD fa S) F' c
theorem CrOK.or {S : DS} {F : Int → Option ByteArray} (h : CrOK S F) (F' : Int → Option ByteArray) : CrOr S F F' := fun fa => .inl (h fa)
theorem CrOK.same {S T : DS} {F : Int → Option ByteArray} (h : CrOK S F) (h1 : T.lb = S.lb) (h2 : T.ws = S.ws) : CrOK T F := fun fa => by
  obtain ⟨c, g⟩ := h fa
  have e : (crD fa T).lb = (crD fa S).lb := by unfold crD; rw [h1, h2]
  exact ⟨c, by rw [e]; exact g.tp, by rw [e]; exact g.vw, by rw [e]; exact g.f0, by rw [e]; exact g.f1, rfl, rfl⟩
theorem good_of {fa : Nat → Int} {S : DS} {F : Int → Option ByteArray} {c : Cm} (h1 : TP (crL fa S.ws S.lb S.ws.length 3) c) (h2 : Vw (crL fa S.ws S.lb S.ws.length 1) (crL fa S.ws S.lb S.ws.length 3) c.frames F) : GoodS (crD fa S) F c := by
  obtain ⟨c0, c1, c2, c3⟩ := cp_at (crL fa S.ws S.lb S.ws.length)
  have e0 : (crD fa S).lb 0 = crL fa S.ws S.lb S.ws.length 1 := c0
  have e1 : (crD fa S).lb 1 = crL fa S.ws S.lb S.ws.length 1 := c1
  have e2 : (crD fa S).lb 2 = crL fa S.ws S.lb S.ws.length 3 := c2
  have e3 : (crD fa S).lb 3 = crL fa S.ws S.lb S.ws.length 3 := c3
  exact ⟨by rw [e2]; exact h1, by rw [e0, e2]; exact h2, by rw [e0, e1], by rw [e2, e3], rfl, rfl⟩
/- no slot waits -/
theorem crash_wt {S : DS} {c : Cm} {F : Int → Option ByteArray} (ht : TP (S.lb 3) c) (hv : Vw (S.lb 1) (S.lb 3) c.frames F) (hw : Wt (64 + 1028 * c.frames) (fun n => ¬ fndM (S.lb 3) noM c.frames n = none) S.ws) : CrOK S F := fun fa => by
  have he := crL_eff hw fa S.lb S.ws.length (Nat.le_refl _)
  refine ⟨c, good_of (ht.eff he.log (by omega)) (hv.keep (fun j _ h2 => he.log.same j h2) (fun n hn h => he.page n hn (fun k => k h)))⟩
/- a slot waits behind them -/
theorem crash_slot {S : DS} {c : Cm} {ws : List Chg} {fr pg a : Nat} {F F' : Int → Option ByteArray} (ht : TP (S.lb 3) c) (hS : S.ws = ws ++ [⟨1, 16 + 24 * (1 - c.slot), txtB (nxN c.number) fr pg, false⟩]) (hw : Wt a noK ws) (h1 : 64 + 1028 * c.frames ≤ a) (h2 : 64 + 1028 * fr ≤ a)
    (hf1 : fr < 4294967296) (hp1 : pg < 4294967296) (hf : fr = 0 ∨ 64 + 1028 * fr ≤ (S.lb 3).length) (hv : Vw (S.lb 1) (S.lb 3) c.frames F) (hv' : Vw (S.lb 1) (S.lb 3) fr F') : CrOr S F F' := fun fa => by
  have hs := ht.slot
  have he := crL_eff hw fa S.lb ws.length (Nat.le_refl _)
  have hx : crL fa S.ws S.lb S.ws.length = crS (fa ws.length) ⟨1, 16 + 24 * (1 - c.slot), txtB (nxN c.number) fr pg, false⟩ (crL fa ws S.lb ws.length) := by rw [hS]; exact crL_snoc fa ws _ S.lb
  obtain ⟨l, hl⟩ : ∃ l, l = crL fa ws S.lb ws.length := ⟨_, rfl⟩
  rw [← hl] at he hx
  have ht' := ht.eff he.log (by omega)
  have hP : ∀ n, n < 6 → PgK (S.lb 1) (l 1) n := fun n hn => he.page n hn (fun k => k)
  have after : ∀ t : ByteArray, t.size ≤ 24 → ∀ j, 64 ≤ j → j < a → bL (onL (16 + 24 * (1 - c.slot)) t false (l 3)) j = bL (S.lb 3) j := fun t hts j j1 j2 => by
    rw [onL_get, if_neg (by omega)]
    exact he.log.same j j2
  have hts := txtB_size (nxN c.number) fr pg
  unfold crS at hx
  by_cases e1 : fa ws.length = 1
  · rw [if_pos e1] at hx
    replace hx : crL fa S.ws S.lb S.ws.length = updF l 3 (onL (16 + 24 * (1 - c.slot)) (txtB (nxN c.number) fr pg) false (l 3)) := hx
    refine .inr ⟨flC c fr pg, good_of ?_ ?_⟩
    · rw [hx, updF_at]
      exact ht'.whole fr pg hf1 hp1 (hf.imp id fun h => Nat.le_trans h he.log.len)
    · rw [hx, updF_at, updF_ne _ _ (by decide)]
      exact hv'.keep (fun j j1 j2 => after _ (by rw [hts]; omega) j j1 (by omega)) (fun n hn _ => hP n hn)
  · rw [if_neg e1] at hx
    by_cases e2 : fa ws.length = 2
    · rw [if_pos e2] at hx
      replace hx : crL fa S.ws S.lb S.ws.length = updF l 3 (onL (16 + 24 * (1 - c.slot)) (half (txtB (nxN c.number) fr pg)) false (l 3)) := hx
      refine .inl ⟨c, good_of ?_ ?_⟩
      · rw [hx, updF_at]
        exact ht'.half _ (by rw [half_size, hts])
      · rw [hx, updF_at, updF_ne _ _ (by decide)]
        exact hv.keep (fun j j1 j2 => after _ (by rw [half_size, hts]; omega) j j1 (by omega)) (fun n hn _ => hP n hn)
    · rw [if_neg e2] at hx
      refine .inl ⟨c, good_of ?_ ?_⟩
      · rw [hx]; exact ht'
      · rw [hx]
        exact hv.keep (fun j j1 j2 => he.log.same j (by omega)) (fun n hn _ => hP n hn)
/- a second crash, behind an opening that only read -/
theorem GoodS.again {S T : DS} {F : Int → Option ByteArray} {c : Cm} (h : GoodS S F c) (h1 : T.lb = S.lb) (h2 : T.ws = S.ws) (fa : Nat → Int) : GoodS (crD fa T) F c := by
  have e : ∀ j, crL fa T.ws T.lb T.ws.length j = S.lb j := fun j => by rw [h1, h2, h.ws]; rfl
  refine good_of ?_ ?_
  · rw [e, h.f1]; exact h.tp
  · rw [e, e, h.f1, h.f0]; exact h.vw
end Go.Proofs.Ytfjkockcgddgbaa
