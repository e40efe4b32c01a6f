/- a log and its frames: plain facts -/
import Derived.Test.YtfjkockcgddgbaaGreatLrK
import Derived.Test.YtfjkockcgddgbaaGreatMgA
namespace Go.Proofs.YtfjkockcgddgbaaGreat
open Go.RowKit Go.Lib
theorem nthF_left {l r : List (Int × ByteArray)} {i : Nat} (h : i < l.length) : nthF (l ++ r) i = nthF l i := by
  unfold nthF
  rw [List.getElem?_append_left h]
theorem nthF_snoc (l : List (Int × ByteArray)) (x : Int × ByteArray) : nthF (l ++ [x]) l.length = x := by
  unfold nthF
  rw [List.getElem?_append_right (Nat.le_refl _)]
  simp
theorem nthF_take {l : List (Int × ByteArray)} {i k : Nat} (h : i < k) : nthF (l.take k) i = nthF l i := by
  unfold nthF
  rw [List.getElem?_take_of_lt h]
theorem fndL_same {fs fs' : List (Int × ByteArray)} : ∀ {k : Nat}, (∀ i, i < k → nthF fs' i = nthF fs i) → fndL fs' k = fndL fs k
  | 0, _ => rfl
  | k + 1, h => by
    show updM (fndL fs' k) (nthF fs' k).1 k = updM (fndL fs k) (nthF fs k).1 k
    rw [fndL_same (fun i hi => h i (by omega)), h k (by omega)]
theorem fndL_lt {fs : List (Int × ByteArray)} {x v : Int} : ∀ {k : Nat}, fndL fs k x = some v → 0 ≤ v ∧ v < k ∧ (nthF fs v.toNat).1 = x
  | 0, h => by cases h
  | k + 1, h => by
    by_cases e : (nthF fs k).1 = x
    · rw [fndL_hit e] at h
      injection h with h
      subst h
      exact ⟨by omega, by omega, by rw [Int.toNat_natCast]; exact e⟩
    · rw [fndL_miss e] at h
      have := fndL_lt h
      exact ⟨this.1, by omega, this.2.2⟩
theorem frL_nth (log : List UInt8) : ∀ {k i : Nat}, i < k → nthF (frL log k) i = ((frN log i : Int), frX log i)
  | k + 1, i, h => by
    show nthF (frL log k ++ [_]) i = _
    by_cases e : i < k
    · rw [nthF_left (by rw [frL_len]; exact e)]
      exact frL_nth log e
    · obtain rfl : i = k := by omega
      have := nthF_snoc (frL log i) ((frN log i : Int), frX log i)
      rw [frL_len] at this
      exact this
theorem frL_fnd (log : List UInt8) : ∀ {k m : Nat}, m ≤ k → fndL (frL log k) m = fndM log (fun _ => none) m
  | _, 0, _ => rfl
  | k, m + 1, h => by
    show updM (fndL (frL log k) m) (nthF (frL log k) m).1 m = updM (fndM log (fun _ => none) m) (frN log m) m
    rw [frL_fnd log (by omega), frL_nth log (by omega)]
/- the frames stand in the log's file -/
structure FrA (x : Int × ByteArray) (log : List UInt8) (v : Nat) : Prop where
  len : 64 + 1028 * (v + 1) ≤ log.length
  size : x.2.size = 1024
  byt : ∀ i, i < 1024 → bytS x.2 i = (bL log (64 + 1028 * v + 4 + i)).toNat
  pos : 0 ≤ x.1 ∧ x.1 < 4294967296
def FrT (fs : List (Int × ByteArray)) (log : List UInt8) : Prop := ∀ v, v < fs.length → FrA (nthF fs v) log v
theorem FrA.keep {x : Int × ByteArray} {log log' : List UInt8} {v : Nat} (h : FrA x log v) (hl : log.length ≤ log'.length) (hb : ∀ j, 64 ≤ j → j < 64 + 1028 * (v + 1) → bL log' j = bL log j) : FrA x log' v :=
  ⟨Nat.le_trans h.len hl, h.size, fun i hi => by rw [h.byt i hi, hb _ (by omega) (by omega)], h.pos⟩
theorem FrT.slot {fs : List (Int × ByteArray)} {log : List UInt8} (h : FrT fs log) {q : Nat} {t : ByteArray} (hq : q + t.size ≤ 64) : FrT fs (onL q t false log) := fun v hv =>
  (h v hv).keep onL_ge (fun j h1 _ => by rw [onL_get, if_neg (by omega)])
theorem FrT.take {fs : List (Int × ByteArray)} {log : List UInt8} (h : FrT fs log) (k : Nat) : FrT (fs.take k) log := fun v hv => by
  rw [List.length_take] at hv
  rw [nthF_take (by omega)]
  exact h v (by omega)
theorem FrT.append {fs : List (Int × ByteArray)} {log : List UInt8} (h : FrT fs log) {n : Nat} {t : ByteArray} (hn : n < 4294967296) (ht : t.size = 1024) : FrT (fs ++ [((n : Int), t)]) (onL (64 + 1028 * fs.length) (fourB n ++ t) false log) := fun v hv => by
  have hs : (fourB n ++ t).size = 1028 := by rw [ByteArray.size_append, fourB_size, ht]
  rw [List.length_append] at hv
  by_cases e : v < fs.length
  · rw [nthF_left e]
    exact (h v e).keep onL_ge (fun j h1 h2 => by rw [onL_get, if_neg (by omega)])
  · obtain rfl : v = fs.length := by simp at hv; omega
    rw [nthF_snoc]
    refine ⟨by rw [onL_len, hs]; simp; omega, ht, fun i hi => ?_, by omega, by omega⟩
    rw [Nat.add_assoc, frame_byt ht (by omega), show 4 + i = (fourB n).size + i by rw [fourB_size], byt_right]
theorem FrT.opened {log : List UInt8} {k : Nat} (h : k = 0 ∨ 64 + 1028 * k ≤ log.length) : FrT (frL log k) log := fun v hv => by
  rw [frL_len] at hv
  rw [frL_nth log hv]
  have hl : 64 + 1028 * (v + 1) ≤ log.length := by omega
  refine ⟨hl, ?_, fun i hi => ?_, by omega, ?_⟩
  · show ((log.drop (64 + 1028 * v + 4)).take 1024).toArray.size = 1024
    simp
    omega
  · show bytS ⟨((log.drop (64 + 1028 * v + 4)).take 1024).toArray⟩ i = _
    rw [cut_byt hi]
  · have := numB_lt (frT log v) 0
    show ((numB (frT log v) 0 : Nat) : Int) < _
    omega
set_option maxRecDepth 20000 in
theorem FrT.txt {fs : List (Int × ByteArray)} {S : DS} (h : FrT fs (S.lb 2)) (hz : (S.lb 2).length ≤ 67108864) : Txt fs fs.length S := by
  refine ⟨fun v hv T hT hd => ?_, fun v hv T hd => ?_⟩
  · have hA := h v hv
    have hlen := hA.len
    have hTl := congrArg List.length hT
    have g1 : 64 + 1028 * v + 4 + 1024 ≤ (T.lb 2).length := by omega
    have g2 : (T.lb 2).length ≤ 67108864 := by omega
    have hR := rd_ok (lb := T.lb) (f := 1) (p := 64 + 1028 * v + 4) (n := 1024) (by decide) g1 g2
    have ec : ((64 + 1028 * v + 4 : Nat) : Int) = 64 + 1028 * (v : Int) + 4 := by omega
    obtain ⟨x, y, e2, hx, hy⟩ : ∃ x y, rdF T (v : Int) = (x, y) ∧ x = rdS ((1 : Nat) : Int) ((64 + 1028 * v + 4 : Nat) : Int) ((1024 : Nat) : Int) T.lb false ∧ y = rdE ((1 : Nat) : Int) ((64 + 1028 * v + 4 : Nat) : Int) ((1024 : Nat) : Int) T.lb false := by
      unfold rdF
      rw [hd, ec]
      exact ⟨_, _, rfl, rfl, rfl⟩
    rw [← hx, ← hy] at hR
    obtain ⟨r1, r2, r3⟩ := hR
    clear hx hy
    rw [e2]
    congr 1
    refine ext_byt (by rw [r2, hA.size]) fun i hi => ?_
    rw [r2] at hi
    rw [r3 i hi, hA.byt i hi]
    show (bL (T.lb 2) _).toNat = _
    rw [hT]
  · have hlen := (h v hv).len
    have ha : askE 1 (64 + 1028 * (v : Int) + 4) 1024 true = 2 := by
      unfold askE fitsD
      rw [if_pos (by simp; omega)]
      rfl
    have e : rdE 1 (64 + 1028 * (v : Int) + 4) 1024 T.lb T.down = 2 := by
      unfold rdE
      rw [hd, ha, if_neg (by decide)]
    have e' : rdF T (v : Int) = (rdS 1 (64 + 1028 * (v : Int) + 4) 1024 T.lb T.down, rdE 1 (64 + 1028 * (v : Int) + 4) 1024 T.lb T.down) := rfl
    rw [e', e]
/- the program's log, and the document's -/
structure LIv (L : LS) (S : DS) (fs : List (Int × ByteArray)) : Prop where
  fr : L.fr = fs.length ∧ L.last.frames ≤ L.fr
  pl : L.pl = fndL fs L.last.frames
  al : mrg L.pl L.fh = fndL fs L.fr
  fh : ∀ x v, L.fh x = some v → (L.last.frames : Int) ≤ v ∧ v < L.fr
  txt : FrT fs (S.lb 2)
  ok : okCm L.last
set_option maxRecDepth 20000 in
theorem LIv.rd {L : LS} {S : DS} {fs : List (Int × ByteArray)} (h : LIv L S fs) (hz : (S.lb 2).length ≤ 67108864) (h0 : (S.lb 0).length ≤ 67108864) (n : Int) : rdR fs S n = rdL L S n := by
  have hT := h.txt.txt hz
  by_cases h1 : isPg n = true
  · have eR : rdR fs S n = if S.down then ((⟨#[]⟩ : ByteArray), (2 : Int)) else match fndL fs fs.length n with
        | some v => ((nthF fs v.toNat).2, 0)
        | none => if ((S.lb 0).length : Int) / 1024 ≤ n then (⟨#[]⟩, 7) else (cutP (S.lb 0) n, 0) := by
      unfold rdR
      rw [if_neg (fun k => k h1)]
      rfl
    have eL : rdL L S n = match L.fh n with
        | some v => rdF S v
        | none => match L.pl n with
          | some v => rdF S v
          | none => if S.down then (⟨#[]⟩, 2) else if ((S.lb 0).length : Int) / 1024 ≤ n then (⟨#[]⟩, 7) else (rdS 0 (1024 * n) 1024 S.lb S.down, rdE 0 (1024 * n) 1024 S.lb S.down) := by
      unfold rdL
      rw [if_neg (fun k => k h1)]
      rfl
    rw [eR, eL]
    clear eR eL
    have hn := of_decide_eq_true h1
    have hal : mrg L.pl L.fh n = fndL fs fs.length n := by rw [h.al, h.fr.1]
    have key : ∀ v, fndL fs fs.length n = some v → (if S.down = true then ((⟨#[]⟩ : ByteArray), (2 : Int)) else ((nthF fs v.toNat).2, 0)) = rdF S v := fun v hv => by
      have hl := fndL_lt hv
      obtain ⟨u, rfl⟩ : ∃ u : Nat, v = u := ⟨v.toNat, by omega⟩
      cases hd : S.down with
      | true =>
        have h2 := hT.dn u (by omega) S hd
        rw [if_pos rfl]
        have h3 : (rdF S (u : Int)).1 = ⟨#[]⟩ := by
          unfold rdF at h2 ⊢
          dsimp only at h2 ⊢
          unfold rdS
          rw [h2, if_neg (by decide)]
        exact (Prod.ext h3 h2).symm
      | false =>
        rw [if_neg (by decide), Int.toNat_natCast]
        exact (hT.up u (by omega) S rfl hd).symm
    cases hf : fndL fs fs.length n with
    | some v =>
      have hk := key v hf
      rw [hf] at hal
      unfold mrg at hal
      cases hfh : L.fh n with
      | some u =>
        rw [hfh] at hal
        injection hal with hal
        subst hal
        exact hk
      | none =>
        rw [hfh] at hal
        dsimp only at hal
        rw [hal]
        exact hk
    | none =>
      rw [hf] at hal
      unfold mrg at hal
      cases hfh : L.fh n with
      | some u => rw [hfh] at hal; cases hal
      | none =>
        rw [hfh] at hal
        dsimp only at hal
        rw [hal]
        dsimp only
        cases hd : S.down with
        | true => rfl
        | false =>
          simp only [Bool.false_eq_true, if_false]
          by_cases hz' : ((S.lb 0).length : Int) / 1024 ≤ n
          · rw [if_pos hz', if_pos hz']
          · rw [if_neg hz', if_neg hz']
            have hE : rdE 0 (1024 * n) 1024 S.lb false = 0 := by
              unfold rdE
              have ha : askE 0 (1024 * n) 1024 false = 0 := by
                unfold askE fitsD
                rw [if_pos (by simp; omega)]
                rfl
              rw [if_pos ha, if_neg (by show ¬ ((S.lb 0).length : Int) < _; omega)]
            refine Prod.ext ?_ hE.symm
            show cutP (S.lb 0) n = rdS 0 (1024 * n) 1024 S.lb false
            unfold rdS
            rw [if_pos hE]
            rfl
  · unfold rdR rdL
    rw [if_pos h1, if_pos h1]
end Go.Proofs.YtfjkockcgddgbaaGreat

namespace Go.Proofs.YtfjkockcgddgbaaGreat
open Go.RowKit Go.Lib
/- both slots tell of K frames at most -/
def HF (K : Nat) (log : List UInt8) : Prop := numB (headP log) 20 ≤ K ∧ numB (headP log) 44 ≤ K
theorem HF.mono {K K' : Nat} {log : List UInt8} (h : HF K log) (hk : K ≤ K') : HF K' log := ⟨Nat.le_trans h.1 hk, Nat.le_trans h.2 hk⟩
theorem HF.high {K : Nat} {log : List UInt8} (h : HF K log) {p : Nat} (t : ByteArray) (hp : 64 ≤ p) : HF K (onL p t false log) := by
  have e : headP (onL p t false log) = headP log := headP_ext (fun i hi => by rw [onL_get, if_neg (by omega)])
  unfold HF
  rw [e]
  exact h
theorem num_in {log : List UInt8} {q d : Nat} {t : ByteArray} (hq : q + t.size ≤ 64) (hd : d + 4 ≤ t.size) : numB (headP (onL q t false log)) (q + d) = numB t d := num_same fun i hi => by
  rw [headP_byt _ (by omega), onL_get, if_pos (by omega), bytS_ll]
  congr 1
  omega
theorem HF.slot0 {K : Nat} {log : List UInt8} (h : HF K log) {t : ByteArray} (h1 : 8 ≤ t.size) (h2 : t.size ≤ 24) (ht : numB t 4 ≤ K) : HF K (onL 16 t false log) :=
  ⟨by rw [show (20 : Nat) = 16 + 4 from rfl, num_in (by omega) (by omega)]; exact ht, by rw [wr_num (by omega) (by omega)]; exact h.2⟩
theorem HF.slot1 {K : Nat} {log : List UInt8} (h : HF K log) {t : ByteArray} (h1 : 8 ≤ t.size) (h2 : t.size ≤ 24) (ht : numB t 4 ≤ K) : HF K (onL 40 t false log) :=
  ⟨by rw [wr_num (by omega) (by omega)]; exact h.1, by rw [show (44 : Nat) = 40 + 4 from rfl, num_in (by omega) (by omega)]; exact ht⟩
theorem HF.none (K : Nat) : HF K [] := by
  have z : ∀ p, p + 4 ≤ 64 → numB (headP []) p = 0 := fun p hp => by
    have zz : ∀ i, i < 4 → bytS (headP []) (p + i) = 0 := fun i hi => by
      rw [headP_byt _ (by omega)]
      rfl
    unfold numB numK numK numK numK numK
    rw [zz 0 (by decide), zz 1 (by decide), zz 2 (by decide), zz 3 (by decide)]
  exact ⟨by rw [z 20 (by decide)]; exact Nat.zero_le _, by rw [z 44 (by decide)]; exact Nat.zero_le _⟩
theorem HF.start {K : Nat} {log : List UInt8} (h : HF K log) (pg : Nat) (hp : pg < 4294967296) : HF K (onL 0 (markB ++ txtB 1 0 pg) false log) ∧ HF K (onL 0 (half (markB ++ txtB 1 0 pg)) false log) := by
  have hs : (markB ++ txtB 1 0 pg).size = 40 := by rw [ByteArray.size_append, txtB_size]; rfl
  have hh : (half (markB ++ txtB 1 0 pg)).size = 20 := by rw [half_size, hs]
  have e : numB (markB ++ txtB 1 0 pg) 20 = 0 := by
    refine Eq.trans (num_same (b := txtB 1 0 pg) (q := 4) fun i hi => ?_) (txt_num (n := 1) (f := 0) (p := pg) (by decide) (by decide) hp).2.1
    rw [show 20 + i = markB.size + (4 + i) by rw [mark_size]; omega, byt_right]
  refine ⟨⟨?_, ?_⟩, ⟨?_, ?_⟩⟩
  · rw [show (20 : Nat) = 0 + 20 from rfl, num_in (by omega) (by omega), e]
    exact Nat.zero_le _
  · rw [wr_num (by omega) (by omega)]; exact h.2
  · rw [wr_num (by omega) (by omega)]; exact h.1
  · rw [wr_num (by omega) (by omega)]; exact h.2
/- a change of the log's file that keeps it so -/
def SW (K : Nat) (x : Chg) : Prop :=
  (x.c = false ∧ 64 ≤ x.p) ∨ (x.c = false ∧ (x.p = 16 ∨ x.p = 40) ∧ ∃ n f p, x.t = txtB n f p ∧ f ≤ K ∧ n < 4294967296 ∧ f < 4294967296 ∧ p < 4294967296) ∨ (x.c = true ∧ x.p = 0 ∧ x.t.size = 0) ∨ (x.c = false ∧ x.p = 0 ∧ ∃ pg, pg < 4294967296 ∧ x.t = markB ++ txtB 1 0 pg)
theorem SW.mono {K K' : Nat} {x : Chg} (h : SW K x) (hk : K ≤ K') : SW K' x := by
  rcases h with h | ⟨h1, h2, n, f, p, h3, h4, h5⟩ | h | h
  · exact .inl h
  · exact .inr (.inl ⟨h1, h2, n, f, p, h3, Nat.le_trans h4 hk, h5⟩)
  · exact .inr (.inr (.inl h))
  · exact .inr (.inr (.inr h))
theorem SW.on {K : Nat} {x : Chg} (h : SW K x) {log : List UInt8} (hl : HF K log) : HF K (onL x.p x.t x.c log) ∧ HF K (onL x.p (half x.t) x.c log) := by
  rcases h with ⟨h1, h2⟩ | ⟨h1, h2, n, f, p, h3, h4, h5, h6, h7⟩ | ⟨h1, h2, h3⟩ | ⟨h1, h2, pg, h3, h4⟩
  · rw [h1]; exact ⟨hl.high _ h2, hl.high _ h2⟩
  · have hs := txtB_size n f p
    have hn := (txt_num h5 h6 h7).2.1
    have hh : numB (half (txtB n f p)) 4 = f := by
      refine Eq.trans (num_same fun i hi => ?_) hn
      unfold half
      rw [byt_cut (by omega) (by omega), Nat.zero_add]
    rw [h1, h3]
    rcases h2 with h2 | h2
    · rw [h2]
      exact ⟨hl.slot0 (by omega) (by omega) (by omega), hl.slot0 (by rw [half_size]; omega) (by rw [half_size]; omega) (by omega)⟩
    · rw [h2]
      exact ⟨hl.slot1 (by omega) (by omega) (by omega), hl.slot1 (by rw [half_size]; omega) (by rw [half_size]; omega) (by omega)⟩
  · have e : ∀ t : ByteArray, t.size = 0 → onL 0 t true log = [] := fun t ht => by
      apply List.eq_nil_of_length_eq_zero
      rw [onL_len, if_pos rfl, ht]
    rw [h1, h2, e _ h3, e _ (by rw [half_size, h3])]
    exact ⟨HF.none K, HF.none K⟩
  · rw [h1, h2, h4]
    exact hl.start pg h3
structure HS (K : Nat) (S : DS) : Prop where
  seen : HF K (S.lb 2)
  lasts : HF K (S.lb 3)
  wait : ∀ x ∈ S.ws, x.f = 1 → SW K x
theorem HS.mono {K K' : Nat} {S : DS} (h : HS K S) (hk : K ≤ K') : HS K' S := ⟨h.seen.mono hk, h.lasts.mono hk, fun x hx hf => (h.wait x hx hf).mono hk⟩
theorem HS.same {K : Nat} {S T : DS} (h : HS K S) (h1 : T.lb = S.lb) (h2 : T.ws = S.ws) : HS K T := ⟨by rw [h1]; exact h.seen, by rw [h1]; exact h.lasts, by rw [h2]; exact h.wait⟩
theorem HS.op {K : Nat} {S : DS} (h : HS K S) (f p : Int) (t : ByteArray) (c : Bool) (hw : f = 1 → 0 ≤ p → SW K ⟨1, p.toNat, t, c⟩) : HS K (opD S f p t c).2 := by
  unfold opD
  split
  · rename_i ha
    obtain ⟨f', p', rfl, rfl, hf2, -⟩ := ask_fits ha
    split
    · exact h.same rfl rfl
    · rcases (show f' = 0 ∨ f' = 1 by omega) with rfl | rfl
      · refine ⟨?_, ?_, fun x hx hf => ?_⟩
        · exact h.seen
        · exact h.lasts
        · rcases List.mem_append.1 hx with hx | hx
          · exact h.wait x hx hf
          · obtain rfl := List.mem_singleton.1 hx
            cases hf
      · have hS := hw rfl (by omega)
        refine ⟨?_, ?_, fun x hx hf => ?_⟩
        · show HF K (updF S.lb 2 (onL (p' : Int).toNat t c (S.lb 2)) 2)
          rw [updF_at]
          exact (hS.on h.seen).1
        · exact h.lasts
        · rcases List.mem_append.1 hx with hx | hx
          · exact h.wait x hx hf
          · obtain rfl := List.mem_singleton.1 hx
            exact hS
  · exact h
theorem fold_HF {K : Nat} (ws : List Chg) : ∀ (log : List UInt8), (∀ x ∈ ws, x.f = 1 → SW K x) → HF K log → HF K (foldF 1 ws log) := by
  induction ws with
  | nil => exact fun _ _ h => h
  | cons x r ih =>
    intro log hw h
    have hr : ∀ y ∈ r, y.f = 1 → SW K y := fun y hy => hw y (List.mem_cons_of_mem _ hy)
    by_cases e : x.f = 1
    · have e2 : foldF 1 (x :: r) log = foldF 1 r (onL x.p x.t x.c log) := by
        unfold foldF
        rw [List.foldl_cons, if_pos e]
      rw [e2]
      exact ih _ hr ((hw x (List.mem_cons_self ..) e).on h).1
    · have e2 : foldF 1 (x :: r) log = foldF 1 r log := by
        unfold foldF
        rw [List.foldl_cons, if_neg e]
      rw [e2]
      exact ih _ hr h
theorem HS.syn {K : Nat} {S : DS} (h : HS K S) (f : Int) : HS K (synD S f).2 := by
  unfold synD
  split
  · rename_i ha
    obtain ⟨f', p', rfl, _, hf2, -⟩ := ask_fits ha
    split
    · exact h.same rfl rfl
    · refine ⟨?_, ?_, fun x hx hf => h.wait x (List.mem_filter.1 hx).1 hf⟩
      · rcases (show f' = 0 ∨ f' = 1 by omega) with rfl | rfl <;> exact h.seen
      · rcases (show f' = 0 ∨ f' = 1 by omega) with rfl | rfl
        · exact h.lasts
        · show HF K (updF S.lb 3 (foldF 1 S.ws (S.lb 3)) 3)
          rw [updF_at]
          exact fold_HF _ _ h.wait h.lasts
  · exact h
theorem crS_HF {K : Nat} {x : Chg} {l : Nat → List UInt8} (fa : Int) (hx : x.f = 1 → SW K x) (hf : x.f < 2) (h : HF K (l 3)) : HF K (crS fa x l 3) := by
  unfold crS
  rcases (show x.f = 0 ∨ x.f = 1 by omega) with e | e
  · split
    · rw [e, updF_ne _ _ (by decide)]; exact h
    · split
      · rw [e, updF_ne _ _ (by decide)]; exact h
      · exact h
  · have hS := (hx e).on h
    split
    · rw [e, updF_at]; exact hS.1
    · split
      · rw [e, updF_at]; exact hS.2
      · exact h
theorem crL_HF {K : Nat} {ws : List Chg} (hw : ∀ x ∈ ws, x.f = 1 → SW K x) (hf : ∀ x ∈ ws, x.f < 2) (fa : Nat → Int) {lb : Nat → List UInt8} (h : HF K (lb 3)) : ∀ i, i ≤ ws.length → HF K (crL fa ws lb i 3)
  | 0, _ => h
  | i + 1, hi => by
    rw [crL_succ (by omega)]
    exact crS_HF _ (hw _ (List.getElem_mem _)) (hf _ (List.getElem_mem _)) (crL_HF hw hf fa h i (by omega))
theorem HS.crash {K : Nat} {S : DS} (h : HS K S) (hf : ∀ x ∈ S.ws, x.f < 2) (fa : Nat → Int) : HS K (crD fa S) := by
  obtain ⟨c0, c1, c2, c3⟩ := cp_at (crL fa S.ws S.lb S.ws.length)
  have hc := crL_HF h.wait hf fa h.lasts S.ws.length (Nat.le_refl _)
  refine ⟨?_, ?_, fun x hx => by cases hx⟩
  · show HF K (cpL (crL fa S.ws S.lb S.ws.length) 2 2)
    rw [c2]; exact hc
  · show HF K (cpL (crL fa S.ws S.lb S.ws.length) 2 3)
    rw [c3]; exact hc
theorem told_frames (s : ByteArray) (q k size : Nat) : (toldA s q k size).frames ≤ numB s (q + 4) := by
  unfold toldA
  split
  · exact Nat.zero_le _
  · split
    · exact Nat.zero_le _
    · split
      · exact Nat.zero_le _
      · split
        · exact Nat.zero_le _
        · exact Nat.le_refl _
theorem head_num (log : List UInt8) (p : Nat) : numB (headB log) p = numB (headP log) p := by
  rcases Nat.lt_or_ge 64 log.length with h | h
  · rw [headP_long (by omega)]
  · rw [pad_num h]
theorem HF.last {K : Nat} {log : List UInt8} (h : HF K log) : (lastC log).frames ≤ K := by
  unfold lastC
  split
  · unfold pickC
    split
    · refine Nat.le_trans (told_frames _ _ _ _) ?_
      rw [head_num]; exact h.2
    · refine Nat.le_trans (told_frames _ _ _ _) ?_
      rw [head_num]; exact h.1
  · exact Nat.zero_le _
end Go.Proofs.YtfjkockcgddgbaaGreat

namespace Go.Proofs.YtfjkockcgddgbaaGreat
open Go.RowKit Go.Lib
theorem op1 (S : DS) (p : Int) (t : ByteArray) : ((opD S 1 p t false).1 = 0 ∧ 0 ≤ p ∧ (opD S 1 p t false).2.lb 2 = onL p.toNat t false (S.lb 2)) ∨ (¬ (opD S 1 p t false).1 = 0 ∧ (opD S 1 p t false).2.lb = S.lb) := by
  unfold opD
  by_cases ha : askE 1 p t.size S.down = 0
  · rw [if_pos ha]
    obtain ⟨f', p', _, rfl, _, _⟩ := ask_fits ha
    by_cases hl : S.left = 0
    · rw [if_pos hl]
      exact .inr ⟨by show ¬ (2 : Int) = 0; decide, rfl⟩
    · rw [if_neg hl]
      refine .inl ⟨rfl, by omega, ?_⟩
      show updF S.lb 2 (onL (p' : Int).toNat t false (S.lb 2)) 2 = _
      rw [updF_at]
  · rw [if_neg ha]
    exact .inr ⟨ha, rfl⟩
theorem syn_lb2 (S : DS) (f : Int) : (synD S f).2.lb 2 = S.lb 2 := by
  unfold synD
  split
  · rename_i ha
    obtain ⟨f', p', rfl, _, hf2, -⟩ := ask_fits ha
    split
    · rfl
    · rcases (show f' = 0 ∨ f' = 1 by omega) with rfl | rfl <;> rfl
  · rfl
theorem LIv.disk {L : LS} {S T : DS} {fs : List (Int × ByteArray)} (h : LIv L S fs) (hT : FrT fs (T.lb 2)) : LIv L T fs := ⟨h.fr, h.pl, h.al, h.fh, hT, h.ok⟩
theorem LIv.same {L : LS} {S T : DS} {fs : List (Int × ByteArray)} (h : LIv L S fs) (hT : T.lb 2 = S.lb 2) : LIv L T fs := h.disk (by rw [hT]; exact h.txt)
structure LQ (K m : Nat) (L : LS) (S : DS) (fs : List (Int × ByteArray)) : Prop where
  iv : LIv L S fs
  hs : HS K S
  fr : L.fr ≤ K
  ok : okS S m
theorem LQ.mono {K m K' m' : Nat} {L : LS} {S : DS} {fs : List (Int × ByteArray)} (h : LQ K m L S fs) (hk : K ≤ K') (hm : m ≤ m') : LQ K' m' L S fs := ⟨h.iv, h.hs.mono hk, Nat.le_trans h.fr hk, h.ok.mono hm⟩
theorem ap_q {K m : Nat} {L : LS} {S : DS} {fs : List (Int × ByteArray)} (h : LQ K m L S fs) (n : Int) (t : ByteArray) : LQ (K + 1) (m + 1) (apL L S n t).2.1 (apL L S n t).2.2 (apF fs (apL L S n t).1 n t) := by
  have hok := apL_ok (L := L) h.ok n t
  have hfr := h.iv.fr
  have hK := h.fr
  unfold apL at hok ⊢
  by_cases h1 : isPg n = true ∧ t.size = 1024
  · rw [if_neg (fun k => k h1)] at hok ⊢
    by_cases h2 : 67108864 < 64 + 1028 * (L.fr + 1)
    · rw [if_pos h2]
      exact h.mono (by omega) (by omega)
    · rw [if_neg h2] at hok ⊢
      have hn := of_decide_eq_true h1.1
      obtain ⟨k, rfl⟩ : ∃ k : Nat, n = k := ⟨n.toNat, by omega⟩
      rw [Int.toNat_natCast] at hok ⊢
      have hs := h.hs.op 1 (64 + 1028 * (L.fr : Int)) (fourB k ++ t) false (fun _ _ => .inl ⟨rfl, by show 64 ≤ (64 + 1028 * (L.fr : Int)).toNat; omega⟩)
      rcases op1 S (64 + 1028 * (L.fr : Int)) (fourB k ++ t) with ⟨e1, e2, e3⟩ | ⟨e1, e2⟩
      · rw [if_pos e1] at hok ⊢
        have e3' : (opD S 1 (64 + 1028 * (L.fr : Int)) (fourB k ++ t) false).2.lb 2 = onL (64 + 1028 * fs.length) (fourB k ++ t) false (S.lb 2) := by
          rw [e3, ← hfr.1]
          congr 1
        have hF : apF fs 0 (k : Int) t = fs ++ [((k : Int), t)] := if_pos rfl
        show LQ (K + 1) (m + 1) { L with fh := updM L.fh k L.fr, fr := L.fr + 1 } _ (apF fs 0 (k : Int) t)
        rw [hF]
        refine ⟨⟨⟨?_, ?_⟩, ?_, ?_, ?_, ?_, h.iv.ok⟩, hs.mono (by omega), ?_, hok⟩
        · show L.fr + 1 = _
          rw [List.length_append, hfr.1]; rfl
        · show L.last.frames ≤ L.fr + 1
          omega
        · show L.pl = fndL (fs ++ [((k : Int), t)]) L.last.frames
          rw [h.iv.pl]
          exact (fndL_same (fun i hi => nthF_left (by omega))).symm
        · show mrg L.pl (updM L.fh k L.fr) = fndL (fs ++ [((k : Int), t)]) (L.fr + 1)
          have e4 : fndL (fs ++ [((k : Int), t)]) (L.fr + 1) = updM (fndL fs L.fr) k L.fr := by
            show updM (fndL (fs ++ [((k : Int), t)]) L.fr) (nthF (fs ++ [((k : Int), t)]) L.fr).1 L.fr = _
            rw [fndL_same (fs := fs) (fun i hi => nthF_left (by omega)), hfr.1, nthF_snoc]
          rw [e4, ← h.iv.al]
          funext x
          unfold mrg updM
          by_cases hx : x = (k : Int)
          · rw [if_pos hx, if_pos hx]
          · rw [if_neg hx, if_neg hx]
        · intro x v hv
          have hv : updM L.fh k L.fr x = some v := hv
          unfold updM at hv
          show (L.last.frames : Int) ≤ v ∧ v < ((L.fr + 1 : Nat) : Int)
          split at hv
          · injection hv with hv
            omega
          · have := h.iv.fh x v hv
            omega
        · rw [e3']
          exact h.iv.txt.append (by omega) h1.2
        · show L.fr + 1 ≤ K + 1
          omega
      · rw [if_neg e1] at hok ⊢
        have hF : apF fs (opD S 1 (64 + 1028 * (L.fr : Int)) (fourB k ++ t) false).1 (k : Int) t = fs := if_neg e1
        show LQ (K + 1) (m + 1) L _ (apF fs (opD S 1 (64 + 1028 * (L.fr : Int)) (fourB k ++ t) false).1 (k : Int) t)
        rw [hF]
        exact ⟨h.iv.same (by rw [e2]), hs.mono (by omega), by omega, hok⟩
  · rw [if_pos h1]
    exact h.mono (by omega) (by omega)
theorem bk_q {K m : Nat} {L : LS} {S : DS} {fs : List (Int × ByteArray)} (h : LQ K m L S fs) : LQ K m (bkL L) S (fs.take L.last.frames) := by
  have hfr := h.iv.fr
  have e1 : fndL (fs.take L.last.frames) L.last.frames = L.pl := by
    rw [h.iv.pl]
    exact fndL_same (fun i hi => nthF_take hi)
  refine ⟨⟨⟨?_, Nat.le_refl _⟩, e1.symm, ?_, (fun x v hv => by cases hv), h.iv.txt.take _, h.iv.ok⟩, h.hs, ?_, h.ok⟩
  · show L.last.frames = _
    rw [List.length_take]
    omega
  · show mrg L.pl (fun _ => none) = fndL (fs.take L.last.frames) L.last.frames
    rw [e1]
    rfl
  · have := h.fr
    show L.last.frames ≤ K
    omega
/- a slot is told -/
theorem tl_q {K m fr pg : Nat} {L : LS} {S : DS} {fs : List (Int × ByteArray)} (h : LQ K m L S fs) (hf : fr ≤ K) (hK : K < 4294967296) (hp : pg < 4294967296) :
    HS K (tlL L S fr pg).2.2 ∧ FrT fs ((tlL L S fr pg).2.2.lb 2) ∧ okS (tlL L S fr pg).2.2 (m + 2) ∧ ((tlL L S fr pg).1 = 0 → (tlL L S fr pg).2.1 = { L with last := flC L.last fr pg, fr := fr }) ∧ (¬ (tlL L S fr pg).1 = 0 → (tlL L S fr pg).2.1 = L) ∧ okCm (flC L.last fr pg) := by
  have hs1 := h.iv.ok.slot
  have hn1 := h.iv.ok.number
  have hok := tlL_ok (L := L) h.ok fr pg
  have hts := txtB_size (nxN L.last.number) fr pg
  have hsw : (1 : Int) = 1 → 0 ≤ 16 + 24 * ((1 - L.last.slot : Nat) : Int) → SW K ⟨1, (16 + 24 * ((1 - L.last.slot : Nat) : Int)).toNat, txtB (nxN L.last.number) fr pg, false⟩ := fun _ _ => .inr (.inl ⟨rfl, by show (16 + 24 * ((1 - L.last.slot : Nat) : Int)).toNat = 16 ∨ (16 + 24 * ((1 - L.last.slot : Nat) : Int)).toNat = 40; omega, _, _, _, rfl, hf, by unfold nxN; omega, by omega, hp⟩)
  have hs := h.hs.op 1 (16 + 24 * ((1 - L.last.slot : Nat) : Int)) (txtB (nxN L.last.number) fr pg) false hsw
  have hfl : okCm (flC L.last fr pg) := ⟨by show 1 - L.last.slot ≤ 1; omega, by show nxN L.last.number ≤ 3; unfold nxN; omega, by show fr < _; omega, hp⟩
  unfold tlL at hok ⊢
  rcases op1 S (16 + 24 * ((1 - L.last.slot : Nat) : Int)) (txtB (nxN L.last.number) fr pg) with ⟨e1, e2, e3⟩ | ⟨e1, e2⟩
  · rw [if_pos e1] at hok ⊢
    have hF : FrT fs ((opD S 1 (16 + 24 * ((1 - L.last.slot : Nat) : Int)) (txtB (nxN L.last.number) fr pg) false).2.lb 2) := by
      rw [e3]
      exact h.iv.txt.slot (by omega)
    by_cases e4 : (synD (opD S 1 (16 + 24 * ((1 - L.last.slot : Nat) : Int)) (txtB (nxN L.last.number) fr pg) false).2 1).1 = 0
    · rw [if_pos e4] at hok ⊢
      exact ⟨hs.syn 1, by rw [syn_lb2]; exact hF, hok, fun _ => rfl, fun k => absurd rfl k, hfl⟩
    · rw [if_neg e4] at hok ⊢
      exact ⟨hs.syn 1, by rw [syn_lb2]; exact hF, hok, fun k => absurd k e4, fun _ => rfl, hfl⟩
  · rw [if_neg e1] at hok ⊢
    exact ⟨hs, by rw [e2]; exact h.iv.txt, hok, fun k => absurd k e1, fun _ => rfl, hfl⟩
theorem cmL_ok4 {L : LS} {S : DS} {k : Nat} (h : okS S k) (n : Int) (t : ByteArray) (pg : Int) : okS (cmL L S n t pg).2.2 (k + 4) := by
  have h1 := apL_ok (L := L) h n t
  have h2 := synD_ok h1 1
  have h3 := tlL_ok (L := (apL L S n t).2.1) h2 (apL L S n t).2.1.fr pg.toNat
  unfold cmL
  split
  · exact h.mono (by omega)
  · split
    · exact h1.mono (by omega)
    · split
      · exact h2.mono (by omega)
      · split
        · exact h3.mono (by omega)
        · exact h3.mono (by omega)
theorem cm_q {K m : Nat} {L : LS} {S : DS} {fs : List (Int × ByteArray)} (h : LQ K m L S fs) (hK : K < 4294967290) (n : Int) (t : ByteArray) (pg : Int) : LQ (K + 1) (m + 4) (cmL L S n t pg).2.1 (cmL L S n t pg).2.2 (cmF L S fs n t pg) := by
  have hok := cmL_ok4 (L := L) h.ok n t pg
  have h0 := ap_q h n t
  unfold cmF
  by_cases hp : 1 ≤ pg ∧ pg ≤ 65536
  · rw [if_pos hp]
    unfold cmL at hok ⊢
    rw [if_neg (fun k => k hp)] at hok ⊢
    obtain ⟨r0, L0, S0, e0⟩ : ∃ r L0 S0, apL L S n t = (r, L0, S0) := ⟨_, _, _, rfl⟩
    have hpl : L0.pl = L.pl := by
      have := e0
      unfold apL at this
      split at this
      · injection this with _ k; injection k with k _; rw [← k]
      · split at this
        · injection this with _ k; injection k with k _; rw [← k]
        · split at this
          · injection this with _ k; injection k with k _; rw [← k]
          · injection this with _ k; injection k with k _; rw [← k]
    rw [e0] at h0 hok ⊢
    dsimp only at h0 hok ⊢
    by_cases k0 : r0 = 0
    · subst k0
      rw [if_neg (fun k => k rfl)] at hok ⊢
      have h1 : LQ (K + 1) (m + 2) L0 (synD S0 1).2 (apF fs 0 n t) := ⟨h0.iv.same (syn_lb2 _ _), h0.hs.syn 1, h0.fr, synD_ok h0.ok 1⟩
      by_cases k1 : (synD S0 1).1 = 0
      · rw [if_neg (fun k => k k1)] at hok ⊢
        obtain ⟨t1, t2, t3, t4, t5, t6⟩ := tl_q (fr := L0.fr) (pg := pg.toNat) h1 h1.fr (by omega) (by omega)
        by_cases k2 : (tlL L0 (synD S0 1).2 L0.fr pg.toNat).1 = 0
        · rw [if_neg (fun k => k k2)] at hok ⊢
          have eL := t4 k2
          dsimp only at hok ⊢
          rw [eL]
          refine ⟨⟨⟨?_, Nat.le_refl _⟩, ?_, ?_, (fun x v hv => by cases hv), t2, t6⟩, t1, ?_, t3⟩
          · exact h1.iv.fr.1
          · show mrg L.pl L0.fh = fndL (apF fs 0 n t) L0.fr
            rw [← hpl]; exact h1.iv.al
          · show mrg (mrg L.pl L0.fh) (fun _ => none) = fndL (apF fs 0 n t) L0.fr
            rw [← hpl, ← h1.iv.al]
            rfl
          · exact h1.fr
        · rw [if_pos k2] at hok ⊢
          rw [t5 k2]
          exact ⟨h1.iv.disk t2, t1, h1.fr, t3⟩
      · rw [if_pos k1] at hok ⊢
        exact h1.mono (Nat.le_refl _) (by omega)
    · rw [if_pos k0] at hok ⊢
      exact h0.mono (Nat.le_refl _) (by omega)
  · rw [if_neg hp]
    unfold cmL
    rw [if_pos hp]
    exact h.mono (by omega) (by omega)
end Go.Proofs.YtfjkockcgddgbaaGreat

namespace Go.Proofs.YtfjkockcgddgbaaGreat
open Go.RowKit Go.Lib Go.Maps
theorem stlK_q {K : Nat} {L : LS} : ∀ (ks : List Int) (S : DS), HS K S → HS K (stlK L ks S).2 ∧ (stlK L ks S).2.lb 2 = S.lb 2
  | [], S, h => ⟨h, rfl⟩
  | n :: r, S, h => by
    unfold stlK
    have h1 := h.op 0 (1024 * n) (rdF S ((L.pl n).getD 0)).1 false (fun k => by cases k)
    split
    · exact ⟨h, rfl⟩
    · split
      · exact ⟨h, rfl⟩
      · split
        · exact ⟨h1, opD_keep⟩
        · have := stlK_q (L := L) r _ h1
          exact ⟨this.1, this.2.trans opD_keep⟩
theorem stlL_q {K : Nat} {L : LS} (ks : List Int) (S : DS) (h : HS K S) : HS K (stlL L S ks).2 ∧ (stlL L S ks).2.lb 2 = S.lb 2 := by
  have h1 := stlK_q (L := L) ks S h
  have h2 := h1.1.op 0 (1024 * (L.last.pages : Int)) ⟨#[]⟩ true (fun k => by cases k)
  unfold stlL
  split
  · exact h1
  · split
    · exact ⟨h2, opD_keep.trans h1.2⟩
    · exact ⟨h2.syn 0, (syn_lb2 _ _).trans (opD_keep.trans h1.2)⟩
theorem ck_q {K m kk : Nat} {L : LS} {S : DS} {fs : List (Int × ByteArray)} (h : LQ K m L S fs) (hK : K < 4294967290) (ks : List Int) (hk : L.fr = L.last.frames → ¬ L.fr = 0 → ks.length ≤ kk) : LQ K (m + kk + 4) (ckL L S ks).2.1 (ckL L S ks).2.2 (ckF L S fs ks) := by
  by_cases e1 : L.fr = L.last.frames
  · by_cases e2 : L.fr = 0
    · have e9 : ckL L S ks = (0, L, S) := by unfold ckL; rw [if_neg (fun h => h e1), if_pos e2]
      have e8 : ckF L S fs ks = fs := by unfold ckF; rw [if_neg (fun h => h.2.1 e2)]
      rw [e9, e8]
      exact h.mono (Nat.le_refl _) (by omega)
    · have hl := hk e1 e2
      have hS := stlL_q (L := L) ks S h.hs
      have hO := stlL_ok (L := L) ks h.ok
      have hpg := h.iv.ok.pages
      have h1 : LQ K (m + kk + 2) L (stlL L S ks).2 fs := ⟨h.iv.same hS.2, hS.1, h.fr, hO.mono (by omega)⟩
      by_cases k1 : (stlL L S ks).1 = 0
      · obtain ⟨t1, t2, t3, t4, t5, t6⟩ := tl_q (fr := 0) (pg := L.last.pages) h1 (Nat.zero_le _) (by omega) hpg
        have e9 : ckL L S ks = if ¬ (tlL L (stlL L S ks).2 0 L.last.pages).1 = 0 then tlL L (stlL L S ks).2 0 L.last.pages else (0, { (tlL L (stlL L S ks).2 0 L.last.pages).2.1 with pl := fun _ => none }, (tlL L (stlL L S ks).2 0 L.last.pages).2.2) := by
          unfold ckL
          rw [if_neg (fun h => h e1), if_neg e2, if_neg (fun k => k k1)]
        by_cases k2 : (tlL L (stlL L S ks).2 0 L.last.pages).1 = 0
        · rw [if_neg (fun k => k k2)] at e9
          have e8 : ckF L S fs ks = [] := by unfold ckF; rw [e9, if_pos ⟨e1, e2, rfl⟩]
          rw [e8, e9]
          have eL := t4 k2
          dsimp only
          rw [eL]
          have hfh : L.fh = fun _ => none := by
            funext x
            cases hx : L.fh x with
            | none => rfl
            | some v => have := h.iv.fh x v hx; omega
          refine ⟨⟨⟨rfl, Nat.le_refl _⟩, rfl, ?_, ?_, (fun v hv => by cases hv), t6⟩, t1, Nat.zero_le _, t3⟩
          · show mrg (fun _ => none) L.fh = fndL [] 0
            rw [hfh]
            rfl
          · intro x v hv
            have hv : L.fh x = some v := hv
            rw [hfh] at hv
            cases hv
        · rw [if_pos k2] at e9
          have e8 : ckF L S fs ks = fs := by unfold ckF; rw [e9, if_neg (fun h => k2 h.2.2)]
          rw [e8, e9, t5 k2]
          exact ⟨h1.iv.disk t2, t1, h1.fr, t3⟩
      · have e9 : ckL L S ks = ((stlL L S ks).1, L, (stlL L S ks).2) := by
          unfold ckL
          rw [if_neg (fun h => h e1), if_neg e2, if_pos k1]
        have e8 : ckF L S fs ks = fs := by unfold ckF; rw [e9, if_neg (fun h => k1 h.2.2)]
        rw [e8, e9]
        exact h1.mono (Nat.le_refl _) (by omega)
  · have e9 : ckL L S ks = (11, L, S) := by unfold ckL; rw [if_pos e1]
    have e8 : ckF L S fs ks = fs := by unfold ckF; rw [if_neg (fun h => e1 h.1)]
    rw [e9, e8]
    exact h.mono (Nat.le_refl _) (by omega)
theorem open_q {K m : Nat} {S : DS} (hs : HS K S) (ho : okS S m) : LQ K m (opnL (S.lb 2)) S (frL (S.lb 2) (lastC (S.lb 2)).frames) := by
  have hf := hs.seen.last
  refine ⟨⟨⟨(frL_len _ _).symm, Nat.le_refl _⟩, ?_, ?_, (fun x v hv => by cases hv), ?_, last_ok _⟩, hs, hf, ho⟩
  · exact (frL_fnd _ (Nat.le_refl _)).symm
  · show mrg (fndM (S.lb 2) (fun _ => none) (lastC (S.lb 2)).frames) (fun _ => none) = fndL (frL (S.lb 2) (lastC (S.lb 2)).frames) (lastC (S.lb 2)).frames
    rw [frL_fnd _ (Nat.le_refl _)]
    rfl
  · refine FrT.opened ?_
    rcases Nat.eq_zero_or_pos (lastC (S.lb 2)).frames with h | h
    · exact .inl h
    · exact .inr (last_fits h)
theorem anew_q {K m : Nat} {S S1 S2 S3 S4 : DS} (hs : HS K S) (ho : okS S m) (pg : Nat) (hp : pg < 4294967296) (hS : Beg S S1 S2 S3 S4 pg) : LQ K (m + 4) ⟨⟨0, 1, 0, pg⟩, 0, fun _ => none, fun _ => none⟩ S4 [] := by
  obtain ⟨b1, b2, b3, b4⟩ := hS
  have h1 : HS K S1 := by have := hs.op 1 0 ⟨#[]⟩ true (fun _ _ => .inr (.inr (.inl ⟨rfl, rfl, rfl⟩))); rw [b1] at this; exact this
  have h2 : HS K S2 := by have := h1.syn 1; rw [b2] at this; exact this
  have h3 : HS K S3 := by have := h2.op 1 0 (markB ++ txtB 1 0 pg) false (fun _ _ => .inr (.inr (.inr ⟨rfl, rfl, pg, hp, rfl⟩))); rw [b3] at this; exact this
  have h4 : HS K S4 := by have := h3.syn 1; rw [b4] at this; exact this
  have o1 : okS S1 (m + 1) := by have := opD_ok ho 1 0 ⟨#[]⟩ true; rw [b1] at this; exact this
  have o2 : okS S2 (m + 2) := by have := synD_ok o1 1; rw [b2] at this; exact this
  have o3 : okS S3 (m + 3) := by have := opD_ok o2 1 0 (markB ++ txtB 1 0 pg) false; rw [b3] at this; exact this
  have o4 : okS S4 (m + 4) := by have := synD_ok o3 1; rw [b4] at this; exact this
  exact ⟨⟨⟨rfl, Nat.le_refl _⟩, rfl, rfl, (fun x v hv => by cases hv), (fun v hv => by cases hv), ⟨by show 0 ≤ 1; decide, by show 1 ≤ 3; decide, by show 0 < 4294967296; decide, hp⟩⟩, h4, Nat.zero_le _, o4⟩
/- no more keys than frames -/
theorem sub_len : ∀ {l l' : List Int}, l.Pairwise (· < ·) → (∀ x ∈ l, x ∈ l') → l.length ≤ l'.length
  | [], _, _, _ => Nat.zero_le _
  | x :: r, l', hp, hs => by
    have hx := hs x (List.mem_cons_self ..)
    have hpc := List.pairwise_cons.1 hp
    have := sub_len (l := r) (l' := l'.erase x) hpc.2 (fun y hy => (List.mem_erase_of_ne (fun e => by have := hpc.1 y hy; omega)).2 (hs y (List.mem_cons_of_mem _ hy)))
    rw [List.length_erase_of_mem hx] at this
    have hpos : 0 < l'.length := List.length_pos_of_mem hx
    rw [List.length_cons]
    omega
theorem MI.few {X : World} {b n k : Nat} {F : Int → Option Int} {fs : List (Int × ByteArray)} (h : MI X b n F) (hF : ∀ x, (F x).isSome = true → ∃ v, v < k ∧ (nthF fs v).1 = x) : MI X b k F := by
  obtain ⟨D, hown, hK⟩ := h
  refine ⟨D, ?_, hK⟩
  have hk := keys_of hown (List.Perm.refl _) hK
  have hlen : (intKeys D).length ≤ k := by
    rw [← (List.mergeSort_perm (intKeys D) (fun x y => decide (x ≤ y))).length_eq]
    refine Nat.le_trans (sub_len (l' := (List.range k).map fun v => (nthF fs v).1) hk.sorted (fun x hx => ?_)) (by simp)
    obtain ⟨v, hv, he⟩ := hF x ((hk.mem x).1 hx).2
    exact List.mem_map.2 ⟨v, List.mem_range.2 hv, he⟩
  obtain ⟨es, clock, hb, hf, hs, rfl⟩ := hown
  refine ⟨es, clock, hb, hf, ?_, rfl⟩
  simpa [intKeys, length_sorted] using hlen
theorem LIv.keyP {L : LS} {S : DS} {fs : List (Int × ByteArray)} (h : LIv L S fs) (x : Int) (hx : (L.pl x).isSome = true) : ∃ v, v < L.fr ∧ (nthF fs v).1 = x := by
  obtain ⟨v, hv⟩ := Option.isSome_iff_exists.1 hx
  rw [h.pl] at hv
  have hl := fndL_lt hv
  have := h.fr
  exact ⟨v.toNat, by omega, hl.2.2⟩
theorem LIv.keyF {L : LS} {S : DS} {fs : List (Int × ByteArray)} (h : LIv L S fs) (x : Int) (hx : (L.fh x).isSome = true) : ∃ v, v < L.fr ∧ (nthF fs v).1 = x := by
  obtain ⟨v, hv⟩ := Option.isSome_iff_exists.1 hx
  have hm : mrg L.pl L.fh x = some v := by unfold mrg; rw [hv]
  rw [h.al] at hm
  have hl := fndL_lt hm
  exact ⟨v.toNat, by omega, hl.2.2⟩
theorem LIv.small {X : World} {B D G bp bf n K : Nat} {L : LS} {S : DS} {fs : List (Int × ByteArray)} (h : LIv L S fs) (hP : PL X B D G bp bf n L S) (hK : L.fr ≤ K) : PL X B D G bp bf K L S :=
  ⟨hP.blk, hP.low, hP.dif, (hP.mp.few h.keyP).mono hK, (hP.mf.few h.keyF).mono hK, hP.dsk⟩
theorem LIv.pos {L : LS} {S : DS} {fs : List (Int × ByteArray)} (h : LIv L S fs) (x : Int) (hx : (L.pl x).isSome = true) : 0 ≤ x := by
  obtain ⟨v, hv, he⟩ := h.keyP x hx
  have := h.fr
  have hp := (h.txt v (by omega)).pos
  omega
theorem LIv.okp {L : LS} {S : DS} {fs : List (Int × ByteArray)} (h : LIv L S fs) (hK : L.fr ≤ 1000000) : okM L.pl ∧ okM L.fh := by
  have hfr := h.fr
  refine ⟨fun x v hv => ?_, fun x v hv => ?_⟩
  · rw [h.pl] at hv
    have := fndL_lt hv
    omega
  · have := h.fh x v hv
    omega
end Go.Proofs.YtfjkockcgddgbaaGreat
