/- relstoreref: Back, Pages, Read -/
import Derived.Test.YtfjkockcgddgbaaGreatLrF
import Derived.Test.YtfjkockcgddgbaaGreatWal8
namespace Go.Proofs.YtfjkockcgddgbaaGreat
open Go.RowKit Go.Lib
attribute [local go_sem ↓] Go.wp_at_zero Go.wp_at_succ
theorem own_take2 {W : World} {base n m cap : Nat} {e : TypeId} {a : Option Addr} {xs : List Value} (h : W.ownsRow base e 2 (.slice a n cap) n xs) (hm : m ≤ n) : W.ownsRow base e 2 (.slice a m cap) m (xs.take (m * 2)) := by
  have hx : xs.length = n * 2 := h.1
  refine ⟨by rw [List.length_take]; omega, ?_⟩
  rcases h.2 with ⟨h1, h2⟩ | ⟨g, cap', cur, h1, h2, h3, h4, h5, h6, h7⟩
  · injection h1 with e1 e2 e3
    subst e1 e3
    left
    exact ⟨by rw [show m = 0 by omega], by omega⟩
  · injection h1 with e1 e2 e3
    subst e1 e3
    exact .inr ⟨g, cap, cur, rfl, h2, h3, by omega, h5, h6, by rw [← h7, List.take_take, Nat.min_eq_left (by omega)]⟩
theorem frsC_take (l : List (Int × ByteArray)) (m : Nat) : (frsC l).take (m * 2) = frsC (l.take m) := by
  induction l generalizing m with
  | nil => simp [frsC]
  | cons x r ih =>
    cases m with
    | zero => simp [frsC]
    | succ m =>
      show (frC x ++ frsC r).take ((m + 1) * 2) = frC x ++ frsC (r.take m)
      rw [List.take_append, List.take_of_length_le (by show 2 ≤ _; omega), ← ih]
      congr 2
      show (m + 1) * 2 - 2 = m * 2
      omega
set_option maxRecDepth 20000 in
set_option maxHeartbeats 1000000 in
theorem rback (X : World) (B R M : Nat) (fs : List (Int × ByteArray)) (c : Cm) (S : DS) (h : RL X B R M fs c S) (hB : B ≤ X.heap.size) (hk : c.frames ≤ fs.length) :
    Calls Tryz.prog 19 #[(.pointer (some ⟨M, 0, none⟩))] X fun e w' => e = .returned (.tuple #[]) ∧ RL w' B R M (fs.take c.frames) c S ∧ BelT tyL B X w' := by
  obtain ⟨vf, h⟩ := h
  obtain ⟨c0, c1, c2, c3, c4, c5⟩ := h.cells
  have f1 := h.unfrozen 1
  have hM := h.lt
  obtain ⟨k, hkk⟩ : ∃ k, k = fs.length := ⟨_, rfl⟩
  obtain ⟨f, hf⟩ : ∃ f, f = c.frames := ⟨_, rfl⟩
  rw [← hkk, ← hf] at hk
  rw [← hf] at c2
  have hlen : (fs.take c.frames).length = f := by rw [List.length_take]; omega
  have hrow := h.row
  rw [← hkk] at hrow
  rcases owns_sliceF hrow with ⟨h1, h2⟩ | ⟨g, cap, h1, h2⟩
  · subst h1 h2
    obtain rfl : f = 0 := by omega
    have HZ : Hid (RLx ((X.drew).setCell ⟨M, 1, none⟩ (.slice none 0 0)) B R M (fs.take c.frames) (.slice none 0 0) c S) := by
      refine h.frames ((Below.refl _ _).drew) ?_
      rw [hlen]
      have : frsC (fs.take c.frames) = [] := List.eq_nil_of_length_eq_zero (by rw [frsC_len, hlen])
      rw [this]
      exact World.ownsRow_nil _ _ _ _
    have HF : Hid (BelT tyL B X ((X.drew).setCell ⟨M, 1, none⟩ (.slice none 0 0))) := set_L (belowT ((Below.refl _ _).drew) hB) h.low (fun _ => h.nf)
    clear h hrow hlen hkk hf
    go_enter Tryz.func19, Tryz.ntmps19
    go_wp2_with fail
    go_region
    all_goals
      go_wp2
      go_end0
      exact ⟨rfl, ⟨_, HZ.out⟩, HF.out⟩
  · subst h1
    have HZ : Hid (RLx ((X.drew).setCell ⟨M, 1, none⟩ (.slice (some ⟨g, 0, none⟩) f cap)) B R M (fs.take c.frames) (.slice (some ⟨g, 0, none⟩) f cap) c S) := by
      refine h.frames ((Below.refl _ _).drew) ?_
      rw [hlen, ← hf, ← frsC_take]
      exact own_take2 hrow hk
    have HF : Hid (BelT tyL B X ((X.drew).setCell ⟨M, 1, none⟩ (.slice (some ⟨g, 0, none⟩) f cap))) := set_L (belowT ((Below.refl _ _).drew) hB) h.low (fun _ => h.nf)
    have i1 : (f : Int) ≤ (cap : Int) := by omega
    clear h hrow hlen hkk hf
    go_enter Tryz.func19, Tryz.ntmps19
    go_wp2_with fail
    go_region
    all_goals
      go_wp2
      go_end0
      exact ⟨rfl, ⟨_, HZ.out⟩, HF.out⟩
theorem rpages (X : World) (B R M : Nat) (fs : List (Int × ByteArray)) (c : Cm) (S : DS) (h : RL X B R M fs c S) :
    Calls Tryz.prog 28 #[(.pointer (some ⟨M, 0, none⟩))] X fun e w' => e = .returned (.int .i64 c.pages) ∧ w' = X := by
  obtain ⟨vf, h⟩ := h
  obtain ⟨c0, c1, c2, c3, c4, c5⟩ := h.cells
  clear h
  go_enter Tryz.func28, Tryz.ntmps28
  go_wp2
  go_ret
  exact ⟨rfl, rfl⟩
/- which of the first k frames holds a page -/
def nthF (fs : List (Int × ByteArray)) (k : Nat) : Int × ByteArray := (fs[k]?).getD (0, ⟨#[]⟩)
def fndL (fs : List (Int × ByteArray)) : Nat → Int → Option Int
  | 0 => fun _ => none
  | k + 1 => updM (fndL fs k) (nthF fs k).1 k
theorem fndL_hit {fs : List (Int × ByteArray)} {k : Nat} {n : Int} (h : (nthF fs k).1 = n) : fndL fs (k + 1) n = some (k : Int) := by
  show updM (fndL fs k) (nthF fs k).1 k n = _
  unfold updM
  rw [if_pos h.symm]
theorem fndL_miss {fs : List (Int × ByteArray)} {k : Nat} {n : Int} (h : ¬ (nthF fs k).1 = n) : fndL fs (k + 1) n = fndL fs k n := by
  show updM (fndL fs k) (nthF fs k).1 k n = _
  unfold updM
  rw [if_neg (fun e => h e.symm)]
theorem fcells {X : World} {B R M g cap k : Nat} {fs : List (Int × ByteArray)} {c : Cm} {S : DS} (h : RLx X B R M fs (.slice (some ⟨g, 0, none⟩) k cap) c S) {i : Nat} (hk : k = fs.length) (hi : i < k) : X.cell? ⟨g, i * 2, none⟩ = some (.int .i64 (nthF fs i).1) ∧ X.cell? ⟨g, i * 2 + 1, none⟩ = some (.string (nthF fs i).2) := by
  subst hk
  have hl : i < fs.length := by omega
  have hn : nthF fs i = fs[i] := by unfold nthF; rw [List.getElem?_eq_getElem hl]; rfl
  have q : ∀ j, j < 2 → X.cell? ⟨g, i * 2 + j, none⟩ = (frC fs[i])[j]? := fun j hj => by
    rw [h.row.cellAt (i * 2 + j) (by omega), frsC_get hl hj]
  rw [hn]
  exact ⟨q 0 (by decide), q 1 (by decide)⟩
def cutP (l : List UInt8) (n : Int) : ByteArray := ⟨((l.drop (1024 * n).toNat).take 1024).toArray⟩
def rdR (fs : List (Int × ByteArray)) (S : DS) (n : Int) : ByteArray × Int :=
  if ¬ isPg n = true then (⟨#[]⟩, 1) else if S.down then (⟨#[]⟩, 2)
  else match fndL fs fs.length n with
    | some v => ((nthF fs v.toNat).2, 0)
    | none => if ((S.lb 0).length : Int) / 1024 ≤ n then (⟨#[]⟩, 7) else (cutP (S.lb 0) n, 0)
theorem rdown {X : World} {B R : Nat} {S : DS} (h : RDs X B R S) : X.cell? ⟨R, 4, none⟩ = some (.bool S.down) ∧ R < X.heap.size := by
  obtain ⟨l0, l1, vw, h⟩ := h
  obtain ⟨c0, c1, c2, c3, c4, c5⟩ := h.rd.cells
  exact ⟨c4, h.rd.lt⟩
theorem cut_page {l : List UInt8} {n : Int} (h0 : 0 ≤ n) : (⟨l.toArray⟩ : ByteArray).extract (1024 * n).toNat (1024 * n + 1024).toNat = cutP l n := by
  apply ll_inj
  rw [ll_extract]
  show (l.take (1024 * n + 1024).toNat).drop (1024 * n).toNat = (l.drop (1024 * n).toNat).take 1024
  rw [List.drop_take]
  congr 1
  omega
set_option maxRecDepth 20000 in
set_option maxHeartbeats 1000000 in
theorem rreadL (n : Int) (X : World) (B R M m : Nat) (fs : List (Int × ByteArray)) (c : Cm) (S : DS) (h : RL X B R M fs c S) (ho : okS S m) (hm : m ≤ 1000000) (hf : fs.length ≤ 70000) :
    Calls Tryz.prog 12 #[(.pointer (some ⟨M, 0, none⟩)), .int .i64 n] X fun e w' => e = .returned (.tuple #[.string (rdR fs S n).1, .int .i64 (rdR fs S n).2]) ∧ Below X.heap.size X w' := by
  by_cases h1 : isPg n = true
  · have hn := of_decide_eq_true h1
    have HI : Hid (∀ W, Calls Tryz.prog 56 #[.int .i64 n, .int .i64 0, .int .i64 2147483647] W fun e w' => e = .returned (.bool true) ∧ w' = W) := fun W => by
      have e : (decide ((0 : Int) ≤ n) && decide (n ≤ 2147483647)) = true := by simp; omega
      rw [← e]; exact rin n 0 2147483647 W
    obtain ⟨vf, h⟩ := h
    obtain ⟨c0, c1, c2, c3, c4, c5⟩ := h.cells
    obtain ⟨g4, hR⟩ := rdown h.dsk
    have hM := h.lt
    have HD : Hid (RDs X B R S) := h.dsk
    have HO : Hid (okS S m ∧ m ≤ 1000000) := (⟨ho, hm⟩ : okS S m ∧ m ≤ 1000000)
    have HP : Hid (RLx X B R M fs vf c S) := h
    cases hd : S.down with
    | true =>
      have e9 : rdR fs S n = (⟨#[]⟩, 2) := by unfold rdR; rw [if_neg (fun h => h h1), hd]; rfl
      rw [e9]
      rw [hd] at g4
      clear h e9 ho hm
      go_enter Tryz.func12, Tryz.ntmps12
      go_wp2_with fail
      refine (HI.out _).mono ?_
      rintro e w1 ⟨rfl, hw⟩; rw [hw]; clear hw
      go_wp2
      go_ret2
      exact ⟨rfl, Below.refl _ _⟩
    | false =>
      rw [hd] at g4
      obtain ⟨k, hk⟩ : ∃ k, k = fs.length := ⟨_, rfl⟩
      have HKK : Hid (k = fs.length) := hk
      obtain ⟨a, cap, rfl⟩ : ∃ a cap, vf = .slice a k cap := by
        rw [hk]
        rcases owns_sliceF h.row with ⟨h1, h2⟩ | ⟨g, cap, h1, h2⟩
        · exact ⟨none, 0, by rw [h1, h2]⟩
        · exact ⟨_, cap, h1⟩
      have HSL : Hid (k = 0 ∨ ∃ g, a = some ⟨g, 0, none⟩) := by
        rcases owns_sliceF h.row with ⟨h1, h2⟩ | ⟨g, cap', h1, h2⟩
        · exact .inl (by rw [hk]; exact h2)
        · injection h1 with e1 _ _
          exact .inr ⟨g, e1⟩
      have e9 : rdR fs S n = match fndL fs k n with
          | some v => ((nthF fs v.toNat).2, 0)
          | none => if ((S.lb 0).length : Int) / 1024 ≤ n then (⟨#[]⟩, 7) else (cutP (S.lb 0) n, 0) := by
        unfold rdR
        rw [if_neg (fun h => h h1), hd, ← hk]
        rfl
      have hk7 : k ≤ 70000 := by omega
      obtain ⟨rs, re, hr⟩ : ∃ rs re, rdR fs S n = (rs, re) := ⟨_, _, rfl⟩
      rw [hr] at e9 ⊢
      have HE9 : Hid _ := e9
      clear h e9 ho hm hk hf h1 hr
      go_enter Tryz.func12, Tryz.ntmps12
      go_wp2_with fail
      refine (HI.out _).mono ?_
      rintro e w1 ⟨rfl, hw⟩; rw [hw]; clear hw
      go_wp2_with fail
      go_loop [6] (fun u => ∃ j : Nat, u = .int .i64 ((j : Int) - 1) ∧ j ≤ k ∧ Hid (fndL fs k n = fndL fs j n)) (fun u => (intOf u + 1).toNat)
      case atStart => exact ⟨k, rfl, Nat.le_refl _, rfl⟩
      case round =>
        obtain ⟨j, rfl, hj, HJ⟩ := hrel
        cases j with
        | zero =>
          have hlen := HD.out.len.1
          have hE := HE9.out
          rw [HJ.out] at hE
          obtain ⟨l, hl⟩ : ∃ l, l = S.lb 0 := ⟨_, rfl⟩
          have HS : Hid (∀ W, RDs W B R S → Calls Tryz.prog 48 #[(.pointer (some ⟨R, 0, none⟩)), .int .i64 0] W fun e w' => e = .returned (.string ⟨l.toArray⟩) ∧ Below W.heap.size W w') := fun W hW => by
            rw [hl]; exact rseenD 0 (by decide) W B R S m hW HO.out.1 HO.out.2
          replace hE : (rs, re) = if ((S.lb 0).length : Int) / 1024 ≤ n then ((⟨#[]⟩ : ByteArray), (7 : Int)) else (cutP (S.lb 0) n, 0) := hE
          rw [← hl] at hlen hE
          clear hl
          have hsz : (⟨l.toArray⟩ : ByteArray).size = l.length := size_mkR l
          by_cases hz : (l.length : Int) / 1024 ≤ n
          · rw [if_pos hz] at hE
            injection hE with hE1 hE2
            subst hE1 hE2
            clear HE9
            go_wp2_with fail
            refine (HS.out _ HD.out).mono ?_
            rintro e w2 ⟨rfl, hb2⟩
            go_wp2
            go_ret2
            exact ⟨rfl, hb2⟩
          · have hz' : n < (l.length : Int) / 1024 := by omega
            have HC := cut_page (l := l) hn.1
            have hsl : ∀ W, (Instr.slice 9 (.string ⟨l.toArray⟩) (some (.int .i64 (1024 * n))) (some (.int .i64 (1024 * n + 1024))) none).run Tryz.prog W = .ok (.string (cutP l n)) W := fun W => by
              rw [run_slice_string_if W 9 _ .i64 .i64 _ _ Tryz.underlying9, if_pos ⟨by omega, by rw [hsz]; omega⟩, if_pos ⟨by omega, by omega⟩, HC]
            rw [if_neg hz] at hE
            injection hE with hE1 hE2
            subst hE1 hE2
            clear HC HE9
            go_wp2_with fail
            refine (HS.out _ HD.out).mono ?_
            rintro e w2 ⟨rfl, hb2⟩
            go_wp2
            go_ret2
            exact ⟨rfl, hb2⟩
        | succ i =>
          rcases HSL.out with h0 | ⟨g, rfl⟩
          · omega
          obtain ⟨q0, q1⟩ := fcells HP.out HKK.out (i := i) (by omega)
          have x1 : ((i + 1 : Nat) : Int) - 1 = (i : Int) := by omega
          rw [x1]
          have b1 : (0 : Int) ≤ (i : Int) := by omega
          have b2 : (i : Int) < (k : Int) := by omega
          by_cases he : (nthF fs i).1 = n
          · have hF : fndL fs k n = some (i : Int) := by rw [HJ.out]; exact fndL_hit he
            have hE := HE9.out
            rw [hF] at hE
            replace hE : (rs, re) = ((nthF fs i).2, (0 : Int)) := hE
            injection hE with hE1 hE2
            subst hE1 hE2
            have hz : ((nthF fs i).1 == n) = true := by simpa using he
            clear hF HJ he HE9
            go_wp2
            go_ret2
            exact ⟨rfl, Below.refl _ _⟩
          · have HJ2 : Hid (fndL fs k n = fndL fs i n) := by
              show fndL fs k n = fndL fs i n
              rw [HJ.out]; exact fndL_miss he
            have hz : ((nthF fs i).1 == n) = false := by simpa using he
            clear HJ
            go_wp2
            go_round
            case rel => exact ⟨i, by go_num, by omega, HJ2⟩
            case measure => simp [intOf]
  · have e9 : rdR fs S n = (⟨#[]⟩, 1) := by unfold rdR; rw [if_pos h1]
    rw [e9]
    have HI : Hid (∀ W, Calls Tryz.prog 56 #[.int .i64 n, .int .i64 0, .int .i64 2147483647] W fun e w' => e = .returned (.bool false) ∧ w' = W) := fun W => by
      have e : (decide ((0 : Int) ≤ n) && decide (n ≤ 2147483647)) = false := by
        rw [← Bool.decide_and]
        exact decide_eq_false (fun k => h1 (decide_eq_true k))
      rw [← e]; exact rin n 0 2147483647 W
    clear h e9 h1 ho
    go_enter Tryz.func12, Tryz.ntmps12
    go_wp2_with fail
    refine (HI.out _).mono ?_
    rintro e w1 ⟨rfl, hw⟩; rw [hw]; clear hw
    go_wp2
    go_ret2
    exact ⟨rfl, Below.refl _ _⟩
end Go.Proofs.YtfjkockcgddgbaaGreat
