/- package wal: lastCommit -/
import Derived.Test.YtfjkockcgddgbaaGreatWal2
namespace Go.Proofs.YtfjkockcgddgbaaGreat
open Go.RowKit Go.Lib
attribute [local go_sem ↓] Go.wp_at_zero Go.wp_at_succ
def markB : ByteArray := ⟨#[114, 101, 108, 115, 116, 111, 114, 101, 32, 108, 111, 103, 32, 48, 48, 49]⟩
def isMark (s : ByteArray) : Bool := decide (16 ≤ s.size ∧ s.extract 0 16 = markB)
set_option maxRecDepth 20000 in
theorem cprefix0 (s : ByteArray) (w : World) : Calls Tryz.prog 118 #[.string s, .string (⟨#[114, 101, 108, 115, 116, 111, 114, 101, 32, 108, 111, 103, 32, 48, 48, 49]⟩ : ByteArray)] w fun e w' => e = .returned (.bool (isMark s)) ∧ Below w.heap.size w w' := by
  by_cases h1 : 16 ≤ s.size
  · have hsl : ∀ X, (Instr.slice 9 (.string s) none (some (.int .i64 16)) none).run Tryz.prog X = .ok (.string (s.extract 0 16)) X := fun X => by
      have := run_slice_string_h X 9 s Tryz.underlying9 .i64 16 (by decide) (by omega)
      exact this
    have i1 : (16 : Int) ≤ (s.size : Int) := by omega
    by_cases h2 : s.extract 0 16 = markB
    · have HT : Hid (isMark s = true) := decide_eq_true ⟨h1, h2⟩
      have h2' : s.extract 0 16 = (⟨#[114, 101, 108, 115, 116, 111, 114, 101, 32, 108, 111, 103, 32, 48, 48, 49]⟩ : ByteArray) := h2
      clear h1 h2
      go_enter Tryz.func118, Tryz.ntmps118
      go_wp2
      go_ret
      exact ⟨by rw [HT.out]; rfl, by first | exact Below.refl _ _ | exact below_dw (Below.refl _ _)⟩
    · have HT : Hid (isMark s = false) := decide_eq_false (fun h => h2 h.2)
      have n2 := ne_lists h2
      have n3 : ¬ (s.extract 0 16).toList = [114, 101, 108, 115, 116, 111, 114, 101, 32, 108, 111, 103, 32, 48, 48, 49] := fun h => n2 (h.trans (by decide +kernel))
      have m3 : ((s.extract 0 16).toList == [114, 101, 108, 115, 116, 111, 114, 101, 32, 108, 111, 103, 32, 48, 48, 49]) = false := by simpa using n3
      clear h1 h2 n2
      go_enter Tryz.func118, Tryz.ntmps118
      go_wp2
      go_ret
      exact ⟨by rw [HT.out]; rfl, by first | exact Below.refl _ _ | exact below_dw (Below.refl _ _)⟩
  · have HT : Hid (isMark s = false) := decide_eq_false (fun h => h1 h.1)
    have i1 : (s.size : Int) < 16 := by omega
    clear h1
    go_enter Tryz.func118, Tryz.ntmps118
    go_wp2
    go_ret
    exact ⟨by rw [HT.out]; rfl, by first | exact Below.refl _ _ | exact below_dw (Below.refl _ _)⟩
theorem cprefix (s : ByteArray) (w : World) : Calls Tryz.prog 83 #[.string s, .string (⟨#[114, 101, 108, 115, 116, 111, 114, 101, 32, 108, 111, 103, 32, 48, 48, 49]⟩ : ByteArray)] w fun e w' => e = .returned (.bool (isMark s)) ∧ Below w.heap.size w w' := by
  go_enter Tryz.func83, Tryz.ntmps83
  go_wp2_with fail
  refine (cprefix0 s _).mono ?_
  rintro e w2 ⟨rfl, hb⟩
  go_wp2
  go_ret
  exact ⟨rfl, hb⟩
theorem wcell4 {W : World} {b : Nat} {v0 v1 v2 v3 : Value} {t : TypeId} (h : W.heap[b]? = some (.cells #[v0, v1, v2, v3] t (0, 0))) :
    (W.cell? ⟨b, 0, none⟩ = some v0 ∧ W.cell? ⟨b, 1, none⟩ = some v1 ∧ W.cell? ⟨b, 2, none⟩ = some v2 ∧ W.cell? ⟨b, 3, none⟩ = some v3) ∧ (W.frozen? ⟨b, 0, none⟩ = false ∧ W.frozen? ⟨b, 1, none⟩ = false ∧ W.frozen? ⟨b, 2, none⟩ = false ∧ W.frozen? ⟨b, 3, none⟩ = false) ∧ b < W.heap.size := by
  refine ⟨⟨?_, ?_, ?_, ?_⟩, ⟨?_, ?_, ?_, ?_⟩, (Array.getElem?_eq_some_iff.1 h).1⟩ <;> simp [World.cell?, World.frozen?, h]
def headB (log : List UInt8) : ByteArray := ⟨(log.take 64).toArray⟩
def pickC (a b : Cm) : Cm := if a.number = 0 ∨ b.number = nxN a.number then b else a
def lastC (log : List UInt8) : Cm := if isMark (headB log) then pickC (toldA (headB log) 16 0 log.length) (toldA (headB log) 40 1 log.length) else cm0
structure okCm (c : Cm) : Prop where
  slot : c.slot ≤ 1
  number : c.number ≤ 3
  frames : c.frames < 4294967296
  pages : c.pages < 4294967296
theorem okCm0 : okCm cm0 := ⟨by decide, by decide, by decide, by decide⟩
theorem told_ok (head : ByteArray) (p slot size : Nat) (hs : slot ≤ 1) : okCm (toldA head p slot size) := by
  unfold toldA
  split
  · exact okCm0
  · split
    · exact okCm0
    · rename_i h
      split
      · exact okCm0
      · split
        · exact okCm0
        · exact ⟨hs, by show numB head p ≤ 3; omega, numB_lt _ _, numB_lt _ _⟩
theorem pick_ok {a b : Cm} (ha : okCm a) (hb : okCm b) : okCm (pickC a b) := by
  unfold pickC
  split
  · exact hb
  · exact ha
theorem last_ok (log : List UInt8) : okCm (lastC log) := by
  unfold lastC
  split
  · exact pick_ok (told_ok _ _ _ _ (by decide)) (told_ok _ _ _ _ (by decide))
  · exact okCm0
theorem headB_size (log : List UInt8) : (headB log).size = min 64 log.length := by
  show (log.take 64).toArray.size = _
  simp
theorem readHead (S : DS) (hd : S.down = false) (n : Int) (hn : (n = ((S.lb 2).length : Int) ∧ (S.lb 2).length ≤ 64) ∨ (n = 64 ∧ 64 ≤ (S.lb 2).length)) : rdE 1 0 n S.lb S.down = 0 ∧ rdS 1 0 n S.lb S.down = headB (S.lb 2) := by
  have h0 : 0 ≤ n ∧ n ≤ 64 ∧ n ≤ ((S.lb 2).length : Int) := by omega
  have ha : askE 1 0 n S.down = 0 := by
    unfold askE fitsD
    rw [hd, if_pos (by simp; omega)]
    rfl
  have he : rdE 1 0 n S.lb S.down = 0 := by
    unfold rdE
    rw [if_pos ha]
    exact if_neg (by show ¬ ((S.lb 2).length : Int) < 0 + n; omega)
  refine ⟨he, ?_⟩
  unfold rdS
  rw [if_pos he]
  show (⟨(((S.lb 2).drop 0).take n.toNat).toArray⟩ : ByteArray) = ⟨((S.lb 2).take 64).toArray⟩
  rw [List.drop_zero]
  congr 2
  rcases hn with ⟨rfl, h⟩ | ⟨rfl, h⟩
  · rw [Int.toNat_natCast, List.take_of_length_le (Nat.le_refl _), List.take_of_length_le h]
  · rfl
set_option maxRecDepth 20000 in
set_option maxHeartbeats 2000000 in
theorem clastCA (X : World) (B D : Nat) (S : DS) (h : PDs X B D S) (hd : S.down = false) (hz : (S.lb 2).length ≤ 67108864) (hm : (S.lb 2).length ≤ 64) :
    Calls Tryz.prog 45 #[(.pointer (some ⟨D, 0, none⟩))] X fun e w' => e = .returned (.tuple #[cmV (lastC (S.lb 2)), .int .i64 0]) ∧ Below X.heap.size X w' := by
  have ea : askE 1 0 0 S.down = 0 := by rw [hd]; rfl
  have es : sizV 1 S.lb S.down = ((S.lb 2).length : Int) := by unfold sizV; rw [if_pos ea]; rfl
  have EA : Hid _ := ea
  have ES : Hid _ := es
  have R : Hid _ := readHead S hd ((S.lb 2).length : Int) (by omega)
  have HP : Hid (PDs X B D S) := h
  have hsz := headB_size (S.lb 2)
  have hh : (headB (S.lb 2)).size ≤ 1000000 := by omega
  have HH : Hid ((headB (S.lb 2)).size ≤ 1000000) := hh
  have i1 : ((S.lb 2).length : Int) ≤ 64 := by omega
  have HL : Hid (lastC (S.lb 2) = if isMark (headB (S.lb 2)) then pickC (toldA (headB (S.lb 2)) 16 0 (S.lb 2).length) (toldA (headB (S.lb 2)) 40 1 (S.lb 2).length) else cm0) := rfl
  clear ea es h hd hz hm hsz hh
  cases hM : isMark (headB (S.lb 2)) with
  | false =>
    have HT : Hid (lastC (S.lb 2) = cm0) := HL.out.trans (by rw [hM]; rfl)
    have HM : Hid _ := hM
    clear HL hM
    go_enter Tryz.func45, Tryz.ntmps45
    go_wp2_with fail
    refine (csizeD 1 _ B D S (HP.out.below ((Below.refl _ _).alloc (Nat.le_refl _) _))).mono ?_
    rintro e w1 ⟨rfl, rfl⟩
    rw [EA.out, ES.out]
    go_wp2_with fail
    refine (creadD 1 0 ((S.lb 2).length : Int) _ B D S (HP.out.below ((Below.refl _ _).alloc (Nat.le_refl _) _))).mono ?_
    rintro e w1 ⟨rfl, rfl⟩
    rw [R.out.1, R.out.2]
    generalize (S.lb 2).length = z at *
    generalize headB (S.lb 2) = hd at *
    go_wp2_with fail
    refine (cprefix hd _).mono ?_
    rintro e w1 ⟨rfl, hb1⟩
    rw [HM.out]
    obtain ⟨hc1, hf1⟩ := bcell hb1; have za1 : X.heap.size < w1.heap.size := (by have := hb1.size; (try simp at this); omega)
    have HB1 : Hid (Below X.heap.size X w1) := keepBelow ((Below.refl _ _).alloc (Nat.le_refl _) _) hb1
    clear hb1
    go_wp2_with fail
    refine bodyPost_ret (v := .tuple #[(.agg #[.int .i64 (0), .int .i64 (0), .int .i64 (0), .int .i64 (0)]), .int .i64 0]) (by simp [results, Tryz.results45, go_sem, *]) rfl ⟨by rw [HT.out]; rfl, ?_⟩
    exact ((((HB1.out).setCell (by simp <;> omega) _).setCell (by simp <;> omega) _).setCell (by simp <;> omega) _).setCell (by simp <;> omega) _
  | true =>
    have HT : Hid (lastC (S.lb 2) = pickC (toldA (headB (S.lb 2)) 16 0 (S.lb 2).length) (toldA (headB (S.lb 2)) 40 1 (S.lb 2).length)) := HL.out.trans (by rw [hM]; rfl)
    have HM : Hid _ := hM
    have OA : Hid _ := told_ok (headB (S.lb 2)) 16 0 (S.lb 2).length (by decide)
    have OB : Hid _ := told_ok (headB (S.lb 2)) 40 1 (S.lb 2).length (by decide)
    clear HL hM
    go_enter Tryz.func45, Tryz.ntmps45
    go_wp2_with fail
    refine (csizeD 1 _ B D S (HP.out.below ((Below.refl _ _).alloc (Nat.le_refl _) _))).mono ?_
    rintro e w1 ⟨rfl, rfl⟩
    rw [EA.out, ES.out]
    go_wp2_with fail
    refine (creadD 1 0 ((S.lb 2).length : Int) _ B D S (HP.out.below ((Below.refl _ _).alloc (Nat.le_refl _) _))).mono ?_
    rintro e w1 ⟨rfl, rfl⟩
    rw [R.out.1, R.out.2]
    have TA : Hid (∀ W, Calls Tryz.prog 84 #[.string (headB (S.lb 2)), .int .i64 0, .int .i64 (S.lb 2).length] W fun e w' => e = .returned (cmV (toldA (headB (S.lb 2)) 16 0 (S.lb 2).length)) ∧ Below W.heap.size W w') := fun W => ctold0 _ _ W HH.out
    have TB : Hid (∀ W, Calls Tryz.prog 84 #[.string (headB (S.lb 2)), .int .i64 1, .int .i64 (S.lb 2).length] W fun e w' => e = .returned (cmV (toldA (headB (S.lb 2)) 40 1 (S.lb 2).length)) ∧ Below W.heap.size W w') := fun W => ctold1 _ _ W HH.out
    generalize toldA (headB (S.lb 2)) 16 0 (S.lb 2).length = ca at *
    generalize toldA (headB (S.lb 2)) 40 1 (S.lb 2).length = cb at *
    generalize (S.lb 2).length = z at *
    generalize headB (S.lb 2) = hd at *
    obtain ⟨sa, na, fa, pa⟩ := ca
    obtain ⟨sb, nb, fb, pb⟩ := cb
    go_wp2_with fail
    refine (cprefix hd _).mono ?_
    rintro e w1 ⟨rfl, hb1⟩
    rw [HM.out]
    have HO1 : Hid (w1.heap[X.heap.size]? = some (.cells #[.int .i64 0, .int .i64 0, .int .i64 0, .int .i64 0] 91 (0, 0))) := (hb1.block _ (by simp)).trans (heap_alloc_new X _)
    have HB1 : Hid (Below X.heap.size X w1) := keepBelow ((Below.refl _ _).alloc (Nat.le_refl _) _) hb1
    clear hb1
    go_wp2_with fail
    refine (TA.out _).mono ?_
    rintro e w2 ⟨rfl, hb2⟩
    have HO2 : Hid (w2.heap[X.heap.size]? = some (.cells #[.int .i64 0, .int .i64 0, .int .i64 0, .int .i64 0] 91 (0, 0))) := (hb2.block _ (Array.getElem?_eq_some_iff.1 HO1.out).1).trans HO1.out
    have HB2 : Hid (Below X.heap.size X w2) := keepBelow HB1.out hb2
    clear hb2
    go_wp2_with fail
    refine (TB.out _).mono ?_
    rintro e w3 ⟨rfl, hb3⟩
    have HO3 : Hid (w3.heap[X.heap.size]? = some (.cells #[.int .i64 0, .int .i64 0, .int .i64 0, .int .i64 0] 91 (0, 0))) := (hb3.block _ (Array.getElem?_eq_some_iff.1 HO2.out).1).trans HO2.out
    have HB3 : Hid (Below X.heap.size X w3) := keepBelow HB2.out hb3
    clear hb3
    have NA : Hid (na ≤ 4294967296) := Nat.le_trans OA.out.number (by decide)
    simp only [cmV]
    by_cases c1 : na = 0
    · have HQ : Hid (pickC ⟨sa, na, fa, pa⟩ ⟨sb, nb, fb, pb⟩ = ⟨sb, nb, fb, pb⟩) := if_pos (Or.inl c1)
      subst c1
      go_wp2_with fail
      go_quiet (fail)
      have HB9 : Hid (Below X.heap.size X (((w3.alloc (.cells #[.int .i64 sa, .int .i64 0, .int .i64 fa, .int .i64 pa] 91)).alloc (.cells #[.int .i64 sb, .int .i64 nb, .int .i64 fb, .int .i64 pb] 91)).drewN nq)) := below_dw ((HB3.out.alloc (Nat.le_of_lt (Array.getElem?_eq_some_iff.1 HO3.out).1) _).alloc (by simp; have := (Array.getElem?_eq_some_iff.1 HO3.out).1; omega) _)
      have hO : (((w3.alloc (.cells #[.int .i64 sa, .int .i64 0, .int .i64 fa, .int .i64 pa] 91)).alloc (.cells #[.int .i64 sb, .int .i64 nb, .int .i64 fb, .int .i64 pb] 91)).drewN nq).heap[X.heap.size]? = some (.cells #[.int .i64 0, .int .i64 0, .int .i64 0, .int .i64 0] 91 (0, 0)) := (heap_alloc_old _ _ (by simp; have := (Array.getElem?_eq_some_iff.1 HO3.out).1; omega)).trans ((heap_alloc_old _ _ (Array.getElem?_eq_some_iff.1 HO3.out).1).trans HO3.out)
      have hA : (((w3.alloc (.cells #[.int .i64 sa, .int .i64 0, .int .i64 fa, .int .i64 pa] 91)).alloc (.cells #[.int .i64 sb, .int .i64 nb, .int .i64 fb, .int .i64 pb] 91)).drewN nq).heap[w3.heap.size]? = some (.cells #[.int .i64 sa, .int .i64 0, .int .i64 fa, .int .i64 pa] 91 (0, 0)) := (heap_alloc_old _ _ (by simp)).trans (heap_alloc_new w3 _)
      have hBB : (((w3.alloc (.cells #[.int .i64 sa, .int .i64 0, .int .i64 fa, .int .i64 pa] 91)).alloc (.cells #[.int .i64 sb, .int .i64 nb, .int .i64 fb, .int .i64 pb] 91)).drewN nq).heap[w3.heap.size + 1]? = some (.cells #[.int .i64 sb, .int .i64 nb, .int .i64 fb, .int .i64 pb] 91 (0, 0)) := by
        have := heap_alloc_new (w3.alloc (.cells #[.int .i64 sa, .int .i64 0, .int .i64 fa, .int .i64 pa] 91)) (.cells #[.int .i64 sb, .int .i64 nb, .int .i64 fb, .int .i64 pb] 91)
        rw [show (w3.alloc (.cells #[.int .i64 sa, .int .i64 0, .int .i64 fa, .int .i64 pa] 91)).heap.size = w3.heap.size + 1 by simp] at this
        exact this
      obtain ⟨⟨o0, o1, o2, o3⟩, ⟨g0, g1, g2, g3⟩, lo⟩ := wcell4 hO
      obtain ⟨⟨a0, a1, a2, a3⟩, -, la⟩ := wcell4 hA
      obtain ⟨⟨b0, b1, b2, b3⟩, -, lb⟩ := wcell4 hBB
      clear hO hA hBB
      generalize ((w3.alloc (.cells #[.int .i64 sa, .int .i64 0, .int .i64 fa, .int .i64 pa] 91)).alloc (.cells #[.int .i64 sb, .int .i64 nb, .int .i64 fb, .int .i64 pb] 91)).drewN nq = W9 at *
      go_wp2
      refine bodyPost_ret (v := .tuple #[(.agg #[.int .i64 ((sb : Int)), .int .i64 ((nb : Int)), .int .i64 ((fb : Int)), .int .i64 ((pb : Int))]), .int .i64 0]) (by simp [results, Tryz.results45, go_sem, *]) rfl ⟨by rw [HT.out, HQ.out]; rfl, ?_⟩
      exact ((((HB9.out).setCell (by simp <;> omega) _).setCell (by simp <;> omega) _).setCell (by simp <;> omega) _).setCell (by simp <;> omega) _
    by_cases c2 : nb = nxN na
    · have HQ : Hid (pickC ⟨sa, na, fa, pa⟩ ⟨sb, nb, fb, pb⟩ = ⟨sb, nb, fb, pb⟩) := if_pos (Or.inr c2)
      have i2 : ((na : Int) == 0) = false := by simpa using c1
      have i3 : (nb : Int) = (nxN na : Nat) := by omega
      have i4 : ((nb : Int) == (nxN na : Nat)) = true := by simpa using i3
      clear c1 c2 i3
      go_wp2_with fail
      go_region_held3 (fun w' => Below w3.heap.size w3 w' ∧ w3.heap.size + 1 < w'.heap.size ∧ w'.cell? ⟨w3.heap.size, 0, none⟩ = some (.int .i64 ((sa : Int))) ∧ w'.cell? ⟨w3.heap.size, 1, none⟩ = some (.int .i64 ((na : Int))) ∧ w'.cell? ⟨w3.heap.size, 2, none⟩ = some (.int .i64 ((fa : Int))) ∧ w'.cell? ⟨w3.heap.size, 3, none⟩ = some (.int .i64 ((pa : Int))) ∧ w'.cell? ⟨w3.heap.size + 1, 0, none⟩ = some (.int .i64 ((sb : Int))) ∧ w'.cell? ⟨w3.heap.size + 1, 1, none⟩ = some (.int .i64 ((nb : Int))) ∧ w'.cell? ⟨w3.heap.size + 1, 2, none⟩ = some (.int .i64 ((fb : Int))) ∧ w'.cell? ⟨w3.heap.size + 1, 3, none⟩ = some (.int .i64 ((pb : Int)))) (first | (refine ⟨(((Below.refl _ _).alloc (Nat.le_refl _) _).alloc (by simp) _).drew, ?_⟩; go_keep) | (go_split_ands; and_intros <;> assumption) | (go_split_ands; exact ⟨keepBelow (by assumption) hb, keepSize hb (by assumption), keepCell hb (Nat.lt_of_succ_lt (by assumption)) (by assumption), keepCell hb (Nat.lt_of_succ_lt (by assumption)) (by assumption), keepCell hb (Nat.lt_of_succ_lt (by assumption)) (by assumption), keepCell hb (Nat.lt_of_succ_lt (by assumption)) (by assumption), keepCell hb (by assumption) (by assumption), keepCell hb (by assumption) (by assumption), keepCell hb (by assumption) (by assumption), keepCell hb (by assumption) (by assumption)⟩))
        (first | (go_at_call 85; refine (cnext na _ NA.out).mono ?_; rintro e w' ⟨rfl, rfl⟩))
      have HB9 : Hid (Below X.heap.size X (((w3.alloc (.cells #[.int .i64 sa, .int .i64 na, .int .i64 fa, .int .i64 pa] 91)).alloc (.cells #[.int .i64 sb, .int .i64 nb, .int .i64 fb, .int .i64 pb] 91)).drew)) := Below.drew ((HB3.out.alloc (Nat.le_of_lt (Array.getElem?_eq_some_iff.1 HO3.out).1) _).alloc (by simp; have := (Array.getElem?_eq_some_iff.1 HO3.out).1; omega) _)
      have hO : (((w3.alloc (.cells #[.int .i64 sa, .int .i64 na, .int .i64 fa, .int .i64 pa] 91)).alloc (.cells #[.int .i64 sb, .int .i64 nb, .int .i64 fb, .int .i64 pb] 91)).drew).heap[X.heap.size]? = some (.cells #[.int .i64 0, .int .i64 0, .int .i64 0, .int .i64 0] 91 (0, 0)) := (heap_alloc_old _ _ (by simp; have := (Array.getElem?_eq_some_iff.1 HO3.out).1; omega)).trans ((heap_alloc_old _ _ (Array.getElem?_eq_some_iff.1 HO3.out).1).trans HO3.out)
      have hA : (((w3.alloc (.cells #[.int .i64 sa, .int .i64 na, .int .i64 fa, .int .i64 pa] 91)).alloc (.cells #[.int .i64 sb, .int .i64 nb, .int .i64 fb, .int .i64 pb] 91)).drew).heap[w3.heap.size]? = some (.cells #[.int .i64 sa, .int .i64 na, .int .i64 fa, .int .i64 pa] 91 (0, 0)) := (heap_alloc_old _ _ (by simp)).trans (heap_alloc_new w3 _)
      have hBB : (((w3.alloc (.cells #[.int .i64 sa, .int .i64 na, .int .i64 fa, .int .i64 pa] 91)).alloc (.cells #[.int .i64 sb, .int .i64 nb, .int .i64 fb, .int .i64 pb] 91)).drew).heap[w3.heap.size + 1]? = some (.cells #[.int .i64 sb, .int .i64 nb, .int .i64 fb, .int .i64 pb] 91 (0, 0)) := by
        have := heap_alloc_new (w3.alloc (.cells #[.int .i64 sa, .int .i64 na, .int .i64 fa, .int .i64 pa] 91)) (.cells #[.int .i64 sb, .int .i64 nb, .int .i64 fb, .int .i64 pb] 91)
        rw [show (w3.alloc (.cells #[.int .i64 sa, .int .i64 na, .int .i64 fa, .int .i64 pa] 91)).heap.size = w3.heap.size + 1 by simp] at this
        exact this
      obtain ⟨⟨o0, o1, o2, o3⟩, ⟨g0, g1, g2, g3⟩, lo⟩ := wcell4 hO
      obtain ⟨⟨a0, a1, a2, a3⟩, -, la⟩ := wcell4 hA
      obtain ⟨⟨b0, b1, b2, b3⟩, -, lb⟩ := wcell4 hBB
      clear hO hA hBB
      generalize ((w3.alloc (.cells #[.int .i64 sa, .int .i64 na, .int .i64 fa, .int .i64 pa] 91)).alloc (.cells #[.int .i64 sb, .int .i64 nb, .int .i64 fb, .int .i64 pb] 91)).drew = W9 at *
      go_wp2
      refine bodyPost_ret (v := .tuple #[(.agg #[.int .i64 ((sb : Int)), .int .i64 ((nb : Int)), .int .i64 ((fb : Int)), .int .i64 ((pb : Int))]), .int .i64 0]) (by simp [results, Tryz.results45, go_sem, *]) rfl ⟨by rw [HT.out, HQ.out]; rfl, ?_⟩
      exact ((((HB9.out).setCell (by simp <;> omega) _).setCell (by simp <;> omega) _).setCell (by simp <;> omega) _).setCell (by simp <;> omega) _
    have HQ : Hid (pickC ⟨sa, na, fa, pa⟩ ⟨sb, nb, fb, pb⟩ = ⟨sa, na, fa, pa⟩) := if_neg (by rintro (h | h); exact c1 h; exact c2 h)
    have i2 : ((na : Int) == 0) = false := by simpa using c1
    have i4 : ((nb : Int) == (nxN na : Nat)) = false := by
      have : ¬ (nb : Int) = (nxN na : Nat) := by omega
      simpa using this
    clear c1 c2
    go_wp2_with fail
    go_region_held3 (fun w' => Below w3.heap.size w3 w' ∧ w3.heap.size + 1 < w'.heap.size ∧ w'.cell? ⟨w3.heap.size, 0, none⟩ = some (.int .i64 ((sa : Int))) ∧ w'.cell? ⟨w3.heap.size, 1, none⟩ = some (.int .i64 ((na : Int))) ∧ w'.cell? ⟨w3.heap.size, 2, none⟩ = some (.int .i64 ((fa : Int))) ∧ w'.cell? ⟨w3.heap.size, 3, none⟩ = some (.int .i64 ((pa : Int))) ∧ w'.cell? ⟨w3.heap.size + 1, 0, none⟩ = some (.int .i64 ((sb : Int))) ∧ w'.cell? ⟨w3.heap.size + 1, 1, none⟩ = some (.int .i64 ((nb : Int))) ∧ w'.cell? ⟨w3.heap.size + 1, 2, none⟩ = some (.int .i64 ((fb : Int))) ∧ w'.cell? ⟨w3.heap.size + 1, 3, none⟩ = some (.int .i64 ((pb : Int)))) (first | (refine ⟨(((Below.refl _ _).alloc (Nat.le_refl _) _).alloc (by simp) _).drew, ?_⟩; go_keep) | (go_split_ands; and_intros <;> assumption) | (go_split_ands; exact ⟨keepBelow (by assumption) hb, keepSize hb (by assumption), keepCell hb (Nat.lt_of_succ_lt (by assumption)) (by assumption), keepCell hb (Nat.lt_of_succ_lt (by assumption)) (by assumption), keepCell hb (Nat.lt_of_succ_lt (by assumption)) (by assumption), keepCell hb (Nat.lt_of_succ_lt (by assumption)) (by assumption), keepCell hb (by assumption) (by assumption), keepCell hb (by assumption) (by assumption), keepCell hb (by assumption) (by assumption), keepCell hb (by assumption) (by assumption)⟩))
      (first | (go_at_call 85; refine (cnext na _ NA.out).mono ?_; rintro e w' ⟨rfl, rfl⟩))
    have HB9 : Hid (Below X.heap.size X (((w3.alloc (.cells #[.int .i64 sa, .int .i64 na, .int .i64 fa, .int .i64 pa] 91)).alloc (.cells #[.int .i64 sb, .int .i64 nb, .int .i64 fb, .int .i64 pb] 91)).drew)) := Below.drew ((HB3.out.alloc (Nat.le_of_lt (Array.getElem?_eq_some_iff.1 HO3.out).1) _).alloc (by simp; have := (Array.getElem?_eq_some_iff.1 HO3.out).1; omega) _)
    have hO : (((w3.alloc (.cells #[.int .i64 sa, .int .i64 na, .int .i64 fa, .int .i64 pa] 91)).alloc (.cells #[.int .i64 sb, .int .i64 nb, .int .i64 fb, .int .i64 pb] 91)).drew).heap[X.heap.size]? = some (.cells #[.int .i64 0, .int .i64 0, .int .i64 0, .int .i64 0] 91 (0, 0)) := (heap_alloc_old _ _ (by simp; have := (Array.getElem?_eq_some_iff.1 HO3.out).1; omega)).trans ((heap_alloc_old _ _ (Array.getElem?_eq_some_iff.1 HO3.out).1).trans HO3.out)
    have hA : (((w3.alloc (.cells #[.int .i64 sa, .int .i64 na, .int .i64 fa, .int .i64 pa] 91)).alloc (.cells #[.int .i64 sb, .int .i64 nb, .int .i64 fb, .int .i64 pb] 91)).drew).heap[w3.heap.size]? = some (.cells #[.int .i64 sa, .int .i64 na, .int .i64 fa, .int .i64 pa] 91 (0, 0)) := (heap_alloc_old _ _ (by simp)).trans (heap_alloc_new w3 _)
    have hBB : (((w3.alloc (.cells #[.int .i64 sa, .int .i64 na, .int .i64 fa, .int .i64 pa] 91)).alloc (.cells #[.int .i64 sb, .int .i64 nb, .int .i64 fb, .int .i64 pb] 91)).drew).heap[w3.heap.size + 1]? = some (.cells #[.int .i64 sb, .int .i64 nb, .int .i64 fb, .int .i64 pb] 91 (0, 0)) := by
      have := heap_alloc_new (w3.alloc (.cells #[.int .i64 sa, .int .i64 na, .int .i64 fa, .int .i64 pa] 91)) (.cells #[.int .i64 sb, .int .i64 nb, .int .i64 fb, .int .i64 pb] 91)
      rw [show (w3.alloc (.cells #[.int .i64 sa, .int .i64 na, .int .i64 fa, .int .i64 pa] 91)).heap.size = w3.heap.size + 1 by simp] at this
      exact this
    obtain ⟨⟨o0, o1, o2, o3⟩, ⟨g0, g1, g2, g3⟩, lo⟩ := wcell4 hO
    obtain ⟨⟨a0, a1, a2, a3⟩, -, la⟩ := wcell4 hA
    obtain ⟨⟨b0, b1, b2, b3⟩, -, lb⟩ := wcell4 hBB
    clear hO hA hBB
    generalize ((w3.alloc (.cells #[.int .i64 sa, .int .i64 na, .int .i64 fa, .int .i64 pa] 91)).alloc (.cells #[.int .i64 sb, .int .i64 nb, .int .i64 fb, .int .i64 pb] 91)).drew = W9 at *
    go_wp2
    refine bodyPost_ret (v := .tuple #[(.agg #[.int .i64 ((sa : Int)), .int .i64 ((na : Int)), .int .i64 ((fa : Int)), .int .i64 ((pa : Int))]), .int .i64 0]) (by simp [results, Tryz.results45, go_sem, *]) rfl ⟨by rw [HT.out, HQ.out]; rfl, ?_⟩
    exact ((((HB9.out).setCell (by simp <;> omega) _).setCell (by simp <;> omega) _).setCell (by simp <;> omega) _).setCell (by simp <;> omega) _
set_option maxRecDepth 20000 in
set_option maxHeartbeats 2000000 in
theorem clastCB (X : World) (B D : Nat) (S : DS) (h : PDs X B D S) (hd : S.down = false) (hz : (S.lb 2).length ≤ 67108864) (hm : 64 < (S.lb 2).length) :
    Calls Tryz.prog 45 #[(.pointer (some ⟨D, 0, none⟩))] X fun e w' => e = .returned (.tuple #[cmV (lastC (S.lb 2)), .int .i64 0]) ∧ Below X.heap.size X w' := by
  have ea : askE 1 0 0 S.down = 0 := by rw [hd]; rfl
  have es : sizV 1 S.lb S.down = ((S.lb 2).length : Int) := by unfold sizV; rw [if_pos ea]; rfl
  have EA : Hid _ := ea
  have ES : Hid _ := es
  have R : Hid _ := readHead S hd 64 (by omega)
  have HP : Hid (PDs X B D S) := h
  have hsz := headB_size (S.lb 2)
  have hh : (headB (S.lb 2)).size ≤ 1000000 := by omega
  have HH : Hid ((headB (S.lb 2)).size ≤ 1000000) := hh
  have i1 : (64 : Int) < ((S.lb 2).length : Int) := by omega
  have HL : Hid (lastC (S.lb 2) = if isMark (headB (S.lb 2)) then pickC (toldA (headB (S.lb 2)) 16 0 (S.lb 2).length) (toldA (headB (S.lb 2)) 40 1 (S.lb 2).length) else cm0) := rfl
  clear ea es h hd hz hm hsz hh
  cases hM : isMark (headB (S.lb 2)) with
  | false =>
    have HT : Hid (lastC (S.lb 2) = cm0) := HL.out.trans (by rw [hM]; rfl)
    have HM : Hid _ := hM
    clear HL hM
    go_enter Tryz.func45, Tryz.ntmps45
    go_wp2_with fail
    refine (csizeD 1 _ B D S (HP.out.below ((Below.refl _ _).alloc (Nat.le_refl _) _))).mono ?_
    rintro e w1 ⟨rfl, rfl⟩
    rw [EA.out, ES.out]
    go_wp2_with fail
    refine (creadD 1 0 64 _ B D S (HP.out.below ((Below.refl _ _).alloc (Nat.le_refl _) _))).mono ?_
    rintro e w1 ⟨rfl, rfl⟩
    rw [R.out.1, R.out.2]
    generalize (S.lb 2).length = z at *
    generalize headB (S.lb 2) = hd at *
    go_wp2_with fail
    refine (cprefix hd _).mono ?_
    rintro e w1 ⟨rfl, hb1⟩
    rw [HM.out]
    obtain ⟨hc1, hf1⟩ := bcell hb1; have za1 : X.heap.size < w1.heap.size := (by have := hb1.size; (try simp at this); omega)
    have HB1 : Hid (Below X.heap.size X w1) := keepBelow ((Below.refl _ _).alloc (Nat.le_refl _) _) hb1
    clear hb1
    go_wp2_with fail
    refine bodyPost_ret (v := .tuple #[(.agg #[.int .i64 (0), .int .i64 (0), .int .i64 (0), .int .i64 (0)]), .int .i64 0]) (by simp [results, Tryz.results45, go_sem, *]) rfl ⟨by rw [HT.out]; rfl, ?_⟩
    exact ((((HB1.out).setCell (by simp <;> omega) _).setCell (by simp <;> omega) _).setCell (by simp <;> omega) _).setCell (by simp <;> omega) _
  | true =>
    have HT : Hid (lastC (S.lb 2) = pickC (toldA (headB (S.lb 2)) 16 0 (S.lb 2).length) (toldA (headB (S.lb 2)) 40 1 (S.lb 2).length)) := HL.out.trans (by rw [hM]; rfl)
    have HM : Hid _ := hM
    have OA : Hid _ := told_ok (headB (S.lb 2)) 16 0 (S.lb 2).length (by decide)
    have OB : Hid _ := told_ok (headB (S.lb 2)) 40 1 (S.lb 2).length (by decide)
    clear HL hM
    go_enter Tryz.func45, Tryz.ntmps45
    go_wp2_with fail
    refine (csizeD 1 _ B D S (HP.out.below ((Below.refl _ _).alloc (Nat.le_refl _) _))).mono ?_
    rintro e w1 ⟨rfl, rfl⟩
    rw [EA.out, ES.out]
    go_wp2_with fail
    refine (creadD 1 0 64 _ B D S (HP.out.below ((Below.refl _ _).alloc (Nat.le_refl _) _))).mono ?_
    rintro e w1 ⟨rfl, rfl⟩
    rw [R.out.1, R.out.2]
    have TA : Hid (∀ W, Calls Tryz.prog 84 #[.string (headB (S.lb 2)), .int .i64 0, .int .i64 (S.lb 2).length] W fun e w' => e = .returned (cmV (toldA (headB (S.lb 2)) 16 0 (S.lb 2).length)) ∧ Below W.heap.size W w') := fun W => ctold0 _ _ W HH.out
    have TB : Hid (∀ W, Calls Tryz.prog 84 #[.string (headB (S.lb 2)), .int .i64 1, .int .i64 (S.lb 2).length] W fun e w' => e = .returned (cmV (toldA (headB (S.lb 2)) 40 1 (S.lb 2).length)) ∧ Below W.heap.size W w') := fun W => ctold1 _ _ W HH.out
    generalize toldA (headB (S.lb 2)) 16 0 (S.lb 2).length = ca at *
    generalize toldA (headB (S.lb 2)) 40 1 (S.lb 2).length = cb at *
    generalize (S.lb 2).length = z at *
    generalize headB (S.lb 2) = hd at *
    obtain ⟨sa, na, fa, pa⟩ := ca
    obtain ⟨sb, nb, fb, pb⟩ := cb
    go_wp2_with fail
    refine (cprefix hd _).mono ?_
    rintro e w1 ⟨rfl, hb1⟩
    rw [HM.out]
    have HO1 : Hid (w1.heap[X.heap.size]? = some (.cells #[.int .i64 0, .int .i64 0, .int .i64 0, .int .i64 0] 91 (0, 0))) := (hb1.block _ (by simp)).trans (heap_alloc_new X _)
    have HB1 : Hid (Below X.heap.size X w1) := keepBelow ((Below.refl _ _).alloc (Nat.le_refl _) _) hb1
    clear hb1
    go_wp2_with fail
    refine (TA.out _).mono ?_
    rintro e w2 ⟨rfl, hb2⟩
    have HO2 : Hid (w2.heap[X.heap.size]? = some (.cells #[.int .i64 0, .int .i64 0, .int .i64 0, .int .i64 0] 91 (0, 0))) := (hb2.block _ (Array.getElem?_eq_some_iff.1 HO1.out).1).trans HO1.out
    have HB2 : Hid (Below X.heap.size X w2) := keepBelow HB1.out hb2
    clear hb2
    go_wp2_with fail
    refine (TB.out _).mono ?_
    rintro e w3 ⟨rfl, hb3⟩
    have HO3 : Hid (w3.heap[X.heap.size]? = some (.cells #[.int .i64 0, .int .i64 0, .int .i64 0, .int .i64 0] 91 (0, 0))) := (hb3.block _ (Array.getElem?_eq_some_iff.1 HO2.out).1).trans HO2.out
    have HB3 : Hid (Below X.heap.size X w3) := keepBelow HB2.out hb3
    clear hb3
    have NA : Hid (na ≤ 4294967296) := Nat.le_trans OA.out.number (by decide)
    simp only [cmV]
    by_cases c1 : na = 0
    · have HQ : Hid (pickC ⟨sa, na, fa, pa⟩ ⟨sb, nb, fb, pb⟩ = ⟨sb, nb, fb, pb⟩) := if_pos (Or.inl c1)
      subst c1
      go_wp2_with fail
      go_quiet (fail)
      have HB9 : Hid (Below X.heap.size X (((w3.alloc (.cells #[.int .i64 sa, .int .i64 0, .int .i64 fa, .int .i64 pa] 91)).alloc (.cells #[.int .i64 sb, .int .i64 nb, .int .i64 fb, .int .i64 pb] 91)).drewN nq)) := below_dw ((HB3.out.alloc (Nat.le_of_lt (Array.getElem?_eq_some_iff.1 HO3.out).1) _).alloc (by simp; have := (Array.getElem?_eq_some_iff.1 HO3.out).1; omega) _)
      have hO : (((w3.alloc (.cells #[.int .i64 sa, .int .i64 0, .int .i64 fa, .int .i64 pa] 91)).alloc (.cells #[.int .i64 sb, .int .i64 nb, .int .i64 fb, .int .i64 pb] 91)).drewN nq).heap[X.heap.size]? = some (.cells #[.int .i64 0, .int .i64 0, .int .i64 0, .int .i64 0] 91 (0, 0)) := (heap_alloc_old _ _ (by simp; have := (Array.getElem?_eq_some_iff.1 HO3.out).1; omega)).trans ((heap_alloc_old _ _ (Array.getElem?_eq_some_iff.1 HO3.out).1).trans HO3.out)
      have hA : (((w3.alloc (.cells #[.int .i64 sa, .int .i64 0, .int .i64 fa, .int .i64 pa] 91)).alloc (.cells #[.int .i64 sb, .int .i64 nb, .int .i64 fb, .int .i64 pb] 91)).drewN nq).heap[w3.heap.size]? = some (.cells #[.int .i64 sa, .int .i64 0, .int .i64 fa, .int .i64 pa] 91 (0, 0)) := (heap_alloc_old _ _ (by simp)).trans (heap_alloc_new w3 _)
      have hBB : (((w3.alloc (.cells #[.int .i64 sa, .int .i64 0, .int .i64 fa, .int .i64 pa] 91)).alloc (.cells #[.int .i64 sb, .int .i64 nb, .int .i64 fb, .int .i64 pb] 91)).drewN nq).heap[w3.heap.size + 1]? = some (.cells #[.int .i64 sb, .int .i64 nb, .int .i64 fb, .int .i64 pb] 91 (0, 0)) := by
        have := heap_alloc_new (w3.alloc (.cells #[.int .i64 sa, .int .i64 0, .int .i64 fa, .int .i64 pa] 91)) (.cells #[.int .i64 sb, .int .i64 nb, .int .i64 fb, .int .i64 pb] 91)
        rw [show (w3.alloc (.cells #[.int .i64 sa, .int .i64 0, .int .i64 fa, .int .i64 pa] 91)).heap.size = w3.heap.size + 1 by simp] at this
        exact this
      obtain ⟨⟨o0, o1, o2, o3⟩, ⟨g0, g1, g2, g3⟩, lo⟩ := wcell4 hO
      obtain ⟨⟨a0, a1, a2, a3⟩, -, la⟩ := wcell4 hA
      obtain ⟨⟨b0, b1, b2, b3⟩, -, lb⟩ := wcell4 hBB
      clear hO hA hBB
      generalize ((w3.alloc (.cells #[.int .i64 sa, .int .i64 0, .int .i64 fa, .int .i64 pa] 91)).alloc (.cells #[.int .i64 sb, .int .i64 nb, .int .i64 fb, .int .i64 pb] 91)).drewN nq = W9 at *
      go_wp2
      refine bodyPost_ret (v := .tuple #[(.agg #[.int .i64 ((sb : Int)), .int .i64 ((nb : Int)), .int .i64 ((fb : Int)), .int .i64 ((pb : Int))]), .int .i64 0]) (by simp [results, Tryz.results45, go_sem, *]) rfl ⟨by rw [HT.out, HQ.out]; rfl, ?_⟩
      exact ((((HB9.out).setCell (by simp <;> omega) _).setCell (by simp <;> omega) _).setCell (by simp <;> omega) _).setCell (by simp <;> omega) _
    by_cases c2 : nb = nxN na
    · have HQ : Hid (pickC ⟨sa, na, fa, pa⟩ ⟨sb, nb, fb, pb⟩ = ⟨sb, nb, fb, pb⟩) := if_pos (Or.inr c2)
      have i2 : ((na : Int) == 0) = false := by simpa using c1
      have i3 : (nb : Int) = (nxN na : Nat) := by omega
      have i4 : ((nb : Int) == (nxN na : Nat)) = true := by simpa using i3
      clear c1 c2 i3
      go_wp2_with fail
      go_region_held3 (fun w' => Below w3.heap.size w3 w' ∧ w3.heap.size + 1 < w'.heap.size ∧ w'.cell? ⟨w3.heap.size, 0, none⟩ = some (.int .i64 ((sa : Int))) ∧ w'.cell? ⟨w3.heap.size, 1, none⟩ = some (.int .i64 ((na : Int))) ∧ w'.cell? ⟨w3.heap.size, 2, none⟩ = some (.int .i64 ((fa : Int))) ∧ w'.cell? ⟨w3.heap.size, 3, none⟩ = some (.int .i64 ((pa : Int))) ∧ w'.cell? ⟨w3.heap.size + 1, 0, none⟩ = some (.int .i64 ((sb : Int))) ∧ w'.cell? ⟨w3.heap.size + 1, 1, none⟩ = some (.int .i64 ((nb : Int))) ∧ w'.cell? ⟨w3.heap.size + 1, 2, none⟩ = some (.int .i64 ((fb : Int))) ∧ w'.cell? ⟨w3.heap.size + 1, 3, none⟩ = some (.int .i64 ((pb : Int)))) (first | (refine ⟨(((Below.refl _ _).alloc (Nat.le_refl _) _).alloc (by simp) _).drew, ?_⟩; go_keep) | (go_split_ands; and_intros <;> assumption) | (go_split_ands; exact ⟨keepBelow (by assumption) hb, keepSize hb (by assumption), keepCell hb (Nat.lt_of_succ_lt (by assumption)) (by assumption), keepCell hb (Nat.lt_of_succ_lt (by assumption)) (by assumption), keepCell hb (Nat.lt_of_succ_lt (by assumption)) (by assumption), keepCell hb (Nat.lt_of_succ_lt (by assumption)) (by assumption), keepCell hb (by assumption) (by assumption), keepCell hb (by assumption) (by assumption), keepCell hb (by assumption) (by assumption), keepCell hb (by assumption) (by assumption)⟩))
        (first | (go_at_call 85; refine (cnext na _ NA.out).mono ?_; rintro e w' ⟨rfl, rfl⟩))
      have HB9 : Hid (Below X.heap.size X (((w3.alloc (.cells #[.int .i64 sa, .int .i64 na, .int .i64 fa, .int .i64 pa] 91)).alloc (.cells #[.int .i64 sb, .int .i64 nb, .int .i64 fb, .int .i64 pb] 91)).drew)) := Below.drew ((HB3.out.alloc (Nat.le_of_lt (Array.getElem?_eq_some_iff.1 HO3.out).1) _).alloc (by simp; have := (Array.getElem?_eq_some_iff.1 HO3.out).1; omega) _)
      have hO : (((w3.alloc (.cells #[.int .i64 sa, .int .i64 na, .int .i64 fa, .int .i64 pa] 91)).alloc (.cells #[.int .i64 sb, .int .i64 nb, .int .i64 fb, .int .i64 pb] 91)).drew).heap[X.heap.size]? = some (.cells #[.int .i64 0, .int .i64 0, .int .i64 0, .int .i64 0] 91 (0, 0)) := (heap_alloc_old _ _ (by simp; have := (Array.getElem?_eq_some_iff.1 HO3.out).1; omega)).trans ((heap_alloc_old _ _ (Array.getElem?_eq_some_iff.1 HO3.out).1).trans HO3.out)
      have hA : (((w3.alloc (.cells #[.int .i64 sa, .int .i64 na, .int .i64 fa, .int .i64 pa] 91)).alloc (.cells #[.int .i64 sb, .int .i64 nb, .int .i64 fb, .int .i64 pb] 91)).drew).heap[w3.heap.size]? = some (.cells #[.int .i64 sa, .int .i64 na, .int .i64 fa, .int .i64 pa] 91 (0, 0)) := (heap_alloc_old _ _ (by simp)).trans (heap_alloc_new w3 _)
      have hBB : (((w3.alloc (.cells #[.int .i64 sa, .int .i64 na, .int .i64 fa, .int .i64 pa] 91)).alloc (.cells #[.int .i64 sb, .int .i64 nb, .int .i64 fb, .int .i64 pb] 91)).drew).heap[w3.heap.size + 1]? = some (.cells #[.int .i64 sb, .int .i64 nb, .int .i64 fb, .int .i64 pb] 91 (0, 0)) := by
        have := heap_alloc_new (w3.alloc (.cells #[.int .i64 sa, .int .i64 na, .int .i64 fa, .int .i64 pa] 91)) (.cells #[.int .i64 sb, .int .i64 nb, .int .i64 fb, .int .i64 pb] 91)
        rw [show (w3.alloc (.cells #[.int .i64 sa, .int .i64 na, .int .i64 fa, .int .i64 pa] 91)).heap.size = w3.heap.size + 1 by simp] at this
        exact this
      obtain ⟨⟨o0, o1, o2, o3⟩, ⟨g0, g1, g2, g3⟩, lo⟩ := wcell4 hO
      obtain ⟨⟨a0, a1, a2, a3⟩, -, la⟩ := wcell4 hA
      obtain ⟨⟨b0, b1, b2, b3⟩, -, lb⟩ := wcell4 hBB
      clear hO hA hBB
      generalize ((w3.alloc (.cells #[.int .i64 sa, .int .i64 na, .int .i64 fa, .int .i64 pa] 91)).alloc (.cells #[.int .i64 sb, .int .i64 nb, .int .i64 fb, .int .i64 pb] 91)).drew = W9 at *
      go_wp2
      refine bodyPost_ret (v := .tuple #[(.agg #[.int .i64 ((sb : Int)), .int .i64 ((nb : Int)), .int .i64 ((fb : Int)), .int .i64 ((pb : Int))]), .int .i64 0]) (by simp [results, Tryz.results45, go_sem, *]) rfl ⟨by rw [HT.out, HQ.out]; rfl, ?_⟩
      exact ((((HB9.out).setCell (by simp <;> omega) _).setCell (by simp <;> omega) _).setCell (by simp <;> omega) _).setCell (by simp <;> omega) _
    have HQ : Hid (pickC ⟨sa, na, fa, pa⟩ ⟨sb, nb, fb, pb⟩ = ⟨sa, na, fa, pa⟩) := if_neg (by rintro (h | h); exact c1 h; exact c2 h)
    have i2 : ((na : Int) == 0) = false := by simpa using c1
    have i4 : ((nb : Int) == (nxN na : Nat)) = false := by
      have : ¬ (nb : Int) = (nxN na : Nat) := by omega
      simpa using this
    clear c1 c2
    go_wp2_with fail
    go_region_held3 (fun w' => Below w3.heap.size w3 w' ∧ w3.heap.size + 1 < w'.heap.size ∧ w'.cell? ⟨w3.heap.size, 0, none⟩ = some (.int .i64 ((sa : Int))) ∧ w'.cell? ⟨w3.heap.size, 1, none⟩ = some (.int .i64 ((na : Int))) ∧ w'.cell? ⟨w3.heap.size, 2, none⟩ = some (.int .i64 ((fa : Int))) ∧ w'.cell? ⟨w3.heap.size, 3, none⟩ = some (.int .i64 ((pa : Int))) ∧ w'.cell? ⟨w3.heap.size + 1, 0, none⟩ = some (.int .i64 ((sb : Int))) ∧ w'.cell? ⟨w3.heap.size + 1, 1, none⟩ = some (.int .i64 ((nb : Int))) ∧ w'.cell? ⟨w3.heap.size + 1, 2, none⟩ = some (.int .i64 ((fb : Int))) ∧ w'.cell? ⟨w3.heap.size + 1, 3, none⟩ = some (.int .i64 ((pb : Int)))) (first | (refine ⟨(((Below.refl _ _).alloc (Nat.le_refl _) _).alloc (by simp) _).drew, ?_⟩; go_keep) | (go_split_ands; and_intros <;> assumption) | (go_split_ands; exact ⟨keepBelow (by assumption) hb, keepSize hb (by assumption), keepCell hb (Nat.lt_of_succ_lt (by assumption)) (by assumption), keepCell hb (Nat.lt_of_succ_lt (by assumption)) (by assumption), keepCell hb (Nat.lt_of_succ_lt (by assumption)) (by assumption), keepCell hb (Nat.lt_of_succ_lt (by assumption)) (by assumption), keepCell hb (by assumption) (by assumption), keepCell hb (by assumption) (by assumption), keepCell hb (by assumption) (by assumption), keepCell hb (by assumption) (by assumption)⟩))
      (first | (go_at_call 85; refine (cnext na _ NA.out).mono ?_; rintro e w' ⟨rfl, rfl⟩))
    have HB9 : Hid (Below X.heap.size X (((w3.alloc (.cells #[.int .i64 sa, .int .i64 na, .int .i64 fa, .int .i64 pa] 91)).alloc (.cells #[.int .i64 sb, .int .i64 nb, .int .i64 fb, .int .i64 pb] 91)).drew)) := Below.drew ((HB3.out.alloc (Nat.le_of_lt (Array.getElem?_eq_some_iff.1 HO3.out).1) _).alloc (by simp; have := (Array.getElem?_eq_some_iff.1 HO3.out).1; omega) _)
    have hO : (((w3.alloc (.cells #[.int .i64 sa, .int .i64 na, .int .i64 fa, .int .i64 pa] 91)).alloc (.cells #[.int .i64 sb, .int .i64 nb, .int .i64 fb, .int .i64 pb] 91)).drew).heap[X.heap.size]? = some (.cells #[.int .i64 0, .int .i64 0, .int .i64 0, .int .i64 0] 91 (0, 0)) := (heap_alloc_old _ _ (by simp; have := (Array.getElem?_eq_some_iff.1 HO3.out).1; omega)).trans ((heap_alloc_old _ _ (Array.getElem?_eq_some_iff.1 HO3.out).1).trans HO3.out)
    have hA : (((w3.alloc (.cells #[.int .i64 sa, .int .i64 na, .int .i64 fa, .int .i64 pa] 91)).alloc (.cells #[.int .i64 sb, .int .i64 nb, .int .i64 fb, .int .i64 pb] 91)).drew).heap[w3.heap.size]? = some (.cells #[.int .i64 sa, .int .i64 na, .int .i64 fa, .int .i64 pa] 91 (0, 0)) := (heap_alloc_old _ _ (by simp)).trans (heap_alloc_new w3 _)
    have hBB : (((w3.alloc (.cells #[.int .i64 sa, .int .i64 na, .int .i64 fa, .int .i64 pa] 91)).alloc (.cells #[.int .i64 sb, .int .i64 nb, .int .i64 fb, .int .i64 pb] 91)).drew).heap[w3.heap.size + 1]? = some (.cells #[.int .i64 sb, .int .i64 nb, .int .i64 fb, .int .i64 pb] 91 (0, 0)) := by
      have := heap_alloc_new (w3.alloc (.cells #[.int .i64 sa, .int .i64 na, .int .i64 fa, .int .i64 pa] 91)) (.cells #[.int .i64 sb, .int .i64 nb, .int .i64 fb, .int .i64 pb] 91)
      rw [show (w3.alloc (.cells #[.int .i64 sa, .int .i64 na, .int .i64 fa, .int .i64 pa] 91)).heap.size = w3.heap.size + 1 by simp] at this
      exact this
    obtain ⟨⟨o0, o1, o2, o3⟩, ⟨g0, g1, g2, g3⟩, lo⟩ := wcell4 hO
    obtain ⟨⟨a0, a1, a2, a3⟩, -, la⟩ := wcell4 hA
    obtain ⟨⟨b0, b1, b2, b3⟩, -, lb⟩ := wcell4 hBB
    clear hO hA hBB
    generalize ((w3.alloc (.cells #[.int .i64 sa, .int .i64 na, .int .i64 fa, .int .i64 pa] 91)).alloc (.cells #[.int .i64 sb, .int .i64 nb, .int .i64 fb, .int .i64 pb] 91)).drew = W9 at *
    go_wp2
    refine bodyPost_ret (v := .tuple #[(.agg #[.int .i64 ((sa : Int)), .int .i64 ((na : Int)), .int .i64 ((fa : Int)), .int .i64 ((pa : Int))]), .int .i64 0]) (by simp [results, Tryz.results45, go_sem, *]) rfl ⟨by rw [HT.out, HQ.out]; rfl, ?_⟩
    exact ((((HB9.out).setCell (by simp <;> omega) _).setCell (by simp <;> omega) _).setCell (by simp <;> omega) _).setCell (by simp <;> omega) _
theorem clastC (X : World) (B D : Nat) (S : DS) (h : PDs X B D S) (hd : S.down = false) (hz : (S.lb 2).length ≤ 67108864) :
    Calls Tryz.prog 45 #[(.pointer (some ⟨D, 0, none⟩))] X fun e w' => e = .returned (.tuple #[cmV (lastC (S.lb 2)), .int .i64 0]) ∧ Below X.heap.size X w' := by
  rcases Nat.lt_or_ge 64 (S.lb 2).length with hm | hm
  · exact clastCB X B D S h hd hz hm
  · exact clastCA X B D S h hd hz hm
end Go.Proofs.YtfjkockcgddgbaaGreat
