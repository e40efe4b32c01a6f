/- which frames hold which pages, and what pages a disk with these two files shows: plain facts -/
import Derived.Test.YtfjkockcgddgbaaWalT
namespace Go.Proofs.Ytfjkockcgddgbaa
/- which frames hold which pages, and what pages a disk with these two files shows: plain facts -/
theorem cut_byt {l : List UInt8} {p n i : Nat} (hi : i < n) : bytS ⟨((l.drop p).take n).toArray⟩ i = (bL l (p + i)).toNat := by
  rw [← bytS_ll]
  show (bL ((l.drop p).take n).toArray.toList i).toNat = _
  unfold bL
  rw [List.getElem?_take_of_lt hi, List.getElem?_drop]
theorem frN_same {log log' : List UInt8} {i : Nat} (h : ∀ j, j < 4 → bL log' (64 + 1028 * i + j) = bL log (64 + 1028 * i + j)) : frN log' i = frN log i := by
  refine num_same fun j hj => ?_
  unfold frT
  rw [Nat.zero_add, cut_byt hj, cut_byt hj, h j hj]
theorem fndM_same {log log' : List UInt8} {F : Int → Option Int} : ∀ {k : Nat}, (∀ j, 64 ≤ j → j < 64 + 1028 * k → bL log' j = bL log j) → fndM log' F k = fndM log F k
  | 0, _ => rfl
  | k + 1, h => by
    show updM (fndM log' F k) (frN log' k) k = updM (fndM log F k) (frN log k) k
    rw [fndM_same (k := k) (fun j h1 h2 => h j h1 (by omega)), frN_same (fun j hj => h _ (by omega) (by omega))]
theorem fndM_lt {log : List UInt8} {x v : Int} : ∀ {k : Nat}, fndM log (fun _ => none) k x = some v → 0 ≤ v ∧ v < k
  | 0, h => by cases h
  | k + 1, h => by
    have h : updM (fndM log (fun _ => none) k) (frN log k) k x = some v := h
    unfold updM at h
    split at h
    · injection h with h; omega
    · have := fndM_lt h; omega
def noM : Int → Option Int := fun _ => none
/- the pages that files P (places) and log (its first k frames) show are those of F -/
structure VwA (P log : List UInt8) (k : Nat) (F : Int → Option ByteArray) (n : Nat) : Prop where
  inlog : ∀ v, fndM log noM k n = some v → ∃ t, F n = some t ∧ t.size = 1024 ∧ ∀ i, i < 1024 → bytS t i = (bL log (64 + 1028 * v.toNat + 4 + i)).toNat
  place : fndM log noM k n = none → (∀ t, F n = some t → t.size = 1024 ∧ 1024 * (n + 1) ≤ P.length ∧ ∀ i, i < 1024 → bytS t i = (bL P (1024 * n + i)).toNat) ∧ (F n = none → ∀ i, i < 1024 → bL P (1024 * n + i) = 0)
def Vw (P log : List UInt8) (k : Nat) (F : Int → Option ByteArray) : Prop := ∀ n, n < 6 → VwA P log k F n
/- page n of P is as it was -/
def PgK (P P' : List UInt8) (n : Nat) : Prop := (∀ i, i < 1024 → bL P' (1024 * n + i) = bL P (1024 * n + i)) ∧ (1024 * (n + 1) ≤ P.length → 1024 * (n + 1) ≤ P'.length)
theorem PgK.refl (P : List UInt8) (n : Nat) : PgK P P n := ⟨fun _ _ => rfl, id⟩
theorem PgK.trans {P Q R : List UInt8} {n : Nat} (h : PgK P Q n) (k : PgK Q R n) : PgK P R n := ⟨fun i hi => (k.1 i hi).trans (h.1 i hi), fun hl => k.2 (h.2 hl)⟩
theorem Vw.keep {P P' log log' : List UInt8} {k : Nat} {F : Int → Option ByteArray} (h : Vw P log k F) (hl : ∀ j, 64 ≤ j → j < 64 + 1028 * k → bL log' j = bL log j) (hp : ∀ n : Nat, n < 6 → fndM log noM k n = none → PgK P P' n) : Vw P' log' k F := fun n hn => by
  have e := fndM_same (F := noM) hl
  refine ⟨fun v hv => ?_, fun hv => ?_⟩
  · rw [e] at hv
    obtain ⟨t, h1, h2, h3⟩ := (h n hn).inlog v hv
    have hv' := fndM_lt hv
    exact ⟨t, h1, h2, fun i hi => by rw [h3 i hi, hl _ (by omega) (by omega)]⟩
  · rw [e] at hv
    obtain ⟨h1, h2⟩ := (h n hn).place hv
    obtain ⟨p1, p2⟩ := hp n hn hv
    exact ⟨fun t ht => ⟨(h1 t ht).1, p2 (h1 t ht).2.1, fun i hi => by rw [(h1 t ht).2.2 i hi, p1 i hi]⟩, fun hF i hi => by rw [p1 i hi]; exact h2 hF i hi⟩
/- the pages are at their places -/
theorem Vw.settled {P P' log : List UInt8} {k : Nat} {F : Int → Option ByteArray} (h : Vw P log k F) (log' : List UInt8) (hs : ∀ (n : Nat) (v : Int), n < 6 → fndM log noM k n = some v → 1024 * (n + 1) ≤ P'.length ∧ ∀ i, i < 1024 → bL P' (1024 * n + i) = bL log (64 + 1028 * v.toNat + 4 + i)) (hp : ∀ n : Nat, n < 6 → fndM log noM k n = none → PgK P P' n) : Vw P' log' 0 F := fun n hn => by
  refine ⟨(fun v hv => by cases hv), fun _ => ?_⟩
  cases hv : fndM log noM k n with
  | some v =>
    obtain ⟨t, h1, h2, h3⟩ := (h n hn).inlog v hv
    obtain ⟨s1, s2⟩ := hs n v hn hv
    refine ⟨fun t' ht => ?_, fun hF => by rw [h1] at hF; cases hF⟩
    rw [h1] at ht
    injection ht with ht
    subst ht
    exact ⟨h2, s1, fun i hi => by rw [h3 i hi, s2 i hi]⟩
  | none =>
    obtain ⟨h1, h2⟩ := (h n hn).place hv
    obtain ⟨p1, p2⟩ := hp n hn hv
    exact ⟨fun t ht => ⟨(h1 t ht).1, p2 (h1 t ht).2.1, fun i hi => by rw [(h1 t ht).2.2 i hi, p1 i hi]⟩, fun hF i hi => by rw [p1 i hi]; exact h2 hF i hi⟩
/- a frame's bytes behind its write -/
theorem frame_byt {log : List UInt8} {k n : Nat} {t : ByteArray} (ht : t.size = 1024) {i : Nat} (hi : i < 1028) : (bL (onL (64 + 1028 * k) (fourB n ++ t) false log) (64 + 1028 * k + i)).toNat = bytS (fourB n ++ t) i := by
  have hs : (fourB n ++ t).size = 1028 := by rw [ByteArray.size_append, fourB_size, ht]
  rw [onL_get, if_pos (by omega), bytS_ll]
  congr 1
  omega
theorem frN_new {log : List UInt8} {k n : Nat} {t : ByteArray} (ht : t.size = 1024) (hn : n < 4294967296) : frN (onL (64 + 1028 * k) (fourB n ++ t) false log) k = n := by
  refine Eq.trans (num_same fun j hj => ?_) (four_num hn)
  unfold frT
  rw [Nat.zero_add, cut_byt hj, frame_byt ht (by omega), byt_left (by rw [fourB_size]; exact hj)]
theorem fndM_new {log : List UInt8} {k n : Nat} {t : ByteArray} (ht : t.size = 1024) (hn : n < 4294967296) : fndM (onL (64 + 1028 * k) (fourB n ++ t) false log) noM (k + 1) = updM (fndM log noM k) n k := by
  show updM (fndM _ noM k) (frN _ k) k = _
  rw [frN_new ht hn, fndM_same (log := log)]
  intro j h1 h2
  rw [onL_get, if_neg (by omega)]
theorem Vw.append {P log : List UInt8} {k : Nat} {F : Int → Option ByteArray} (h : Vw P log k F) {n : Nat} {t : ByteArray} (ht : t.size = 1024) (hn : n < 6) : Vw P (onL (64 + 1028 * k) (fourB n ++ t) false log) (k + 1) (wth F n t) := fun m hm => by
  have e := fndM_new (log := log) (k := k) ht (n := n) (by omega)
  by_cases hmn : m = n
  · subst hmn
    have e1 : fndM (onL (64 + 1028 * k) (fourB m ++ t) false log) noM (k + 1) m = some (k : Int) := by rw [e]; unfold updM; rw [if_pos rfl]
    have w1 : wth F m t m = some t := by unfold wth updS; rw [if_pos rfl]
    refine ⟨fun v hv => ?_, fun hv => by rw [e1] at hv; cases hv⟩
    rw [e1] at hv
    injection hv with hv
    subst hv
    refine ⟨t, w1, ht, fun i hi => ?_⟩
    rw [Int.toNat_natCast, Nat.add_assoc, frame_byt ht (by omega)]
    rw [show 4 + i = (fourB m).size + i by rw [fourB_size], byt_right]
  · have hz : ¬ (m : Int) = (n : Int) := by omega
    have e1 : fndM (onL (64 + 1028 * k) (fourB n ++ t) false log) noM (k + 1) m = fndM log noM k m := by rw [e]; unfold updM; rw [if_neg hz]
    have w1 : wth F n t m = F m := by unfold wth updS; rw [if_neg hz]
    refine ⟨fun v hv => ?_, fun hv => ?_⟩
    · rw [e1] at hv
      obtain ⟨t', h1, h2, h3⟩ := (h m hm).inlog v hv
      have hv' := fndM_lt hv
      refine ⟨t', by rw [w1]; exact h1, h2, fun i hi => ?_⟩
      rw [h3 i hi, onL_get, if_neg (by omega)]
    · rw [e1] at hv
      rw [w1]
      exact (h m hm).place hv
theorem rd_ok {lb : Nat → List UInt8} {f p n : Nat} (hf : f < 2) (hl : p + n ≤ (lb (2 * f)).length) (hz : (lb (2 * f)).length ≤ 67108864) : rdE f p n lb false = 0 ∧ (rdS f p n lb false).size = n ∧ ∀ i, i < n → bytS (rdS f p n lb false) i = (bL (lb (2 * f)) (p + i)).toNat := by
  have ha : askE f p n false = 0 := by
    unfold askE fitsD
    rw [if_pos (by simp; omega)]
    rfl
  have hE : rdE f p n lb false = 0 := by
    unfold rdE
    rw [if_pos ha, if_neg (by simp; omega)]
  have e : rdS f p n lb false = ⟨(((lb (2 * f)).drop p).take n).toArray⟩ := by
    unfold rdS
    rw [if_pos hE]
    rfl
  refine ⟨hE, ?_, fun i hi => ?_⟩
  · rw [e]
    show (((lb (2 * f)).drop p).take n).toArray.size = n
    simp
    omega
  · rw [e, cut_byt hi]
theorem blank_byt {i : Nat} (h : i < 1024) : bytS ⟨blank.toArray⟩ i = 0 := by
  rw [← bytS_ll]
  show (bL blank i).toNat = 0
  unfold bL blank
  rw [List.getElem?_replicate, if_pos h]
  rfl
theorem blank_size : (⟨blank.toArray⟩ : ByteArray).size = 1024 := by
  show blank.toArray.size = 1024
  rw [List.size_toArray, blank_len]
/- such a log, opened, has these pages -/
theorem Vw.has {S : DS} {c : Cm} {F : Int → Option ByteArray} (h : Vw (S.lb 0) (S.lb 2) c.frames F) (ht : TP (S.lb 2) c) (hd : S.down = false) (h0 : (S.lb 0).length ≤ 67108864) (h2 : (S.lb 2).length ≤ 67108864) {n : Nat} (hn : n < 6) : hasA (opnL (S.lb 2)) S F n = true := by
  have hL := ht.last
  have hpg : isPg n = true := decide_eq_true (by omega)
  have hpl : (opnL (S.lb 2)).pl n = fndM (S.lb 2) noM c.frames n := by show fndM _ _ (lastC (S.lb 2)).frames _ = _; rw [hL]; rfl
  have hrd : rdL (opnL (S.lb 2)) S n = match fndM (S.lb 2) noM c.frames n with | some v => rdF S v | none => if S.down then (⟨#[]⟩, 2) else if ((S.lb 0).length : Int) / 1024 ≤ n then (⟨#[]⟩, 7) else (rdS 0 (1024 * n) 1024 S.lb S.down, rdE 0 (1024 * n) 1024 S.lb S.down) := by
    unfold rdL
    rw [if_neg (fun h => h hpg)]
    show (match (opnL (S.lb 2)).pl n with | some v => _ | none => _) = _
    rw [hpl]
  have hV := h n hn
  cases hv : fndM (S.lb 2) noM c.frames n with
  | some v =>
    obtain ⟨t, t1, t2, t3⟩ := hV.inlog v hv
    have hv' := fndM_lt hv
    have hfit : 64 + 1028 * c.frames ≤ (S.lb 2).length := by rcases ht.fits with h | h <;> omega
    obtain ⟨v, rfl⟩ : ∃ k : Nat, v = k := ⟨v.toNat, by omega⟩
    have hR := rd_ok (lb := S.lb) (f := 1) (p := 64 + 1028 * v + 4) (n := 1024) (by decide) (by show _ ≤ (S.lb 2).length; omega) h2
    have ec : ((64 + 1028 * v + 4 : Nat) : Int) = 64 + 1028 * (v : Int) + 4 := by omega
    obtain ⟨x, y, e2, hx, hy⟩ : ∃ x y, rdF S (v : Int) = (x, y) ∧ x = rdS ((1 : Nat) : Int) ((64 + 1028 * v + 4 : Nat) : Int) ((1024 : Nat) : Int) S.lb false ∧ y = rdE ((1 : Nat) : Int) ((64 + 1028 * v + 4 : Nat) : Int) ((1024 : Nat) : Int) S.lb false := by
      unfold rdF
      rw [hd, ec]
      exact ⟨_, _, rfl, rfl, rfl⟩
    rw [← hx, ← hy] at hR
    obtain ⟨r1, r2, r3⟩ := hR
    clear hx hy
    rw [hv] at hrd
    dsimp only at hrd
    unfold hasA
    rw [t1]
    dsimp only
    rw [hrd, e2]
    refine decide_eq_true ⟨r1, ext_byt (by show x.size = _; rw [r2, t2]) fun i hi => ?_⟩
    change i < x.size at hi
    rw [r2] at hi
    exact (r3 i hi).trans (t3 i hi).symm
  | none =>
    obtain ⟨p1, p2⟩ := hV.place hv
    rw [hv, hd] at hrd
    dsimp only at hrd
    rw [if_neg (by decide)] at hrd
    have ec : ((1024 * n : Nat) : Int) = 1024 * (n : Int) := by omega
    have e0 : rdS 0 (1024 * (n : Int)) 1024 S.lb false = rdS ((0 : Nat) : Int) ((1024 * n : Nat) : Int) ((1024 : Nat) : Int) S.lb false := by rw [ec]; rfl
    have e1 : rdE 0 (1024 * (n : Int)) 1024 S.lb false = rdE ((0 : Nat) : Int) ((1024 * n : Nat) : Int) ((1024 : Nat) : Int) S.lb false := by rw [ec]; rfl
    rw [e0, e1] at hrd
    have hR := rd_ok (lb := S.lb) (f := 0) (p := 1024 * n) (n := 1024) (by decide)
    obtain ⟨x, hx⟩ : ∃ x, x = rdS ((0 : Nat) : Int) ((1024 * n : Nat) : Int) ((1024 : Nat) : Int) S.lb false := ⟨_, rfl⟩
    obtain ⟨y, hy⟩ : ∃ y, y = rdE ((0 : Nat) : Int) ((1024 * n : Nat) : Int) ((1024 : Nat) : Int) S.lb false := ⟨_, rfl⟩
    rw [← hx, ← hy] at hrd hR
    clear hx hy e0 e1
    unfold hasA
    cases hF : F n with
    | some t =>
      obtain ⟨t2, t4, t3⟩ := p1 t hF
      dsimp only
      rw [hrd, if_neg (by omega)]
      obtain ⟨r1, r2, r3⟩ := hR (by show _ ≤ (S.lb 0).length; omega) h0
      refine decide_eq_true ⟨r1, ext_byt (by show x.size = _; rw [r2, t2]) fun i hi => ?_⟩
      change i < x.size at hi
      rw [r2] at hi
      exact (r3 i hi).trans (t3 i hi).symm
    | none =>
      dsimp only
      rw [hrd]
      by_cases hz : ((S.lb 0).length : Int) / 1024 ≤ n
      · rw [if_pos hz]
        exact decide_eq_true (fun h => by cases h)
      · rw [if_neg hz]
        obtain ⟨r1, r2, r3⟩ := hR (by show _ ≤ (S.lb 0).length; omega) h0
        refine decide_eq_true fun _ => ext_byt (by show x.size = _; rw [r2, blank_size]) fun i hi => ?_
        change i < x.size at hi
        rw [r2] at hi
        refine (r3 i hi).trans ?_
        show (bL (S.lb 0) (1024 * n + i)).toNat = _
        rw [p2 hF i hi, blank_byt hi]
        rfl
end Go.Proofs.Ytfjkockcgddgbaa
