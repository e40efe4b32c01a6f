/- package pool: isPinned, isLoose, isGone; slices.IndexFunc over them -/
import Derived.Test.YtfbankloclhplacGreatPoB
namespace Go.Proofs.YtfbankloclhplacGreat
open Go.RowKit Go.Lib Go.Maps
attribute [local go_sem ↓] Go.wp_at_zero Go.wp_at_succ
section
variable {X : World} {B D Gp : Nat} {b : Bk} {P : PS} {L : LS} {S : DS}
set_option maxRecDepth 20000 in
set_option maxHeartbeats 1000000 in
theorem cisPinned (h : PP X B D Gp b P L S) {n : Int} {f : FrP} (hf : P.fs n = some f) (hn : i64 n) :
    Calls Tryz.prog 118 #[(.pointer (some ⟨Gp, 0, none⟩)), .int .i64 n] X fun e w' => e = .returned (.bool false) ∧ w' = X := by
  obtain ⟨c0, c1, c2, c3, c4, c5, c6, c7, c8, c9⟩ := h.cells
  obtain ⟨f0, f1, f2, -, -, -⟩ := h.fcells hf
  have hl := h.fmap.look1 hn
  simp only [hf, Option.map_some, ptrO] at hl
  clear h c0 c1 c2 c3 c5 c6 c7 c8 c9 f0 f2
  go_enter Tryz.func118, Tryz.ntmps118
  go_wp2
  go_ret
  exact ⟨rfl, rfl⟩
set_option maxRecDepth 20000 in
set_option maxHeartbeats 1000000 in
theorem cisLoose (h : PP X B D Gp b P L S) {n : Int} {f : FrP} (hf : P.fs n = some f) (hn : i64 n) :
    Calls Tryz.prog 221 #[(.pointer (some ⟨Gp, 0, none⟩)), .int .i64 n] X fun e w' => e = .returned (.bool true) ∧ w' = X := by
  go_enter Tryz.func221, Tryz.ntmps221
  go_wp2_with fail
  refine (cisPinned h hf hn).mono ?_
  rintro e w1 ⟨rfl, hw⟩; rw [hw]; clear hw
  go_wp2
  go_ret
  exact ⟨rfl, rfl⟩
set_option maxRecDepth 20000 in
set_option maxHeartbeats 1000000 in
theorem cisGone (h : PP X B D Gp b P L S) (n : Int) (hn : i64 n) :
    Calls Tryz.prog 191 #[(.pointer (some ⟨Gp, 0, none⟩)), .int .i64 n] X fun e w' => e = .returned (.bool (!(P.fs n).isSome)) ∧ w' = X := by
  obtain ⟨c0, c1, c2, c3, c4, c5, c6, c7, c8, c9⟩ := h.cells
  have hl := h.fmap.look hn
  have e : ((P.fs n).map (·.blk)).isSome = (P.fs n).isSome := by cases P.fs n <;> rfl
  rw [e] at hl
  generalize (P.fs n).isSome = q at *
  generalize ptrO ((P.fs n).map (·.blk)) = v at *
  clear h c0 c1 c2 c3 c5 c6 c7 c8 c9 e
  go_enter Tryz.func191, Tryz.ntmps191
  go_wp2
  go_ret
  exact ⟨rfl, rfl⟩
end
theorem getD_at {l : List Int} {k : Nat} (h : k < l.length) : l.getD k 0 = l[k] := by simp [List.getD, List.getElem?_eq_getElem h]
/- the first element that a predicate takes -/
def idxF (q : Int → Bool) : List Int → Int
  | [] => -1
  | x :: r => if q x then 0 else if idxF q r = -1 then -1 else idxF q r + 1
theorem idxF_ge (q : Int → Bool) : ∀ l, -1 ≤ idxF q l
  | [] => by unfold idxF; decide
  | x :: r => by
    have := idxF_ge q r
    unfold idxF
    split
    · decide
    · split <;> omega
theorem idxF_none {q : Int → Bool} : ∀ {l : List Int}, (∀ x ∈ l, q x = false) → idxF q l = -1
  | [], _ => rfl
  | x :: r, h => by
    unfold idxF
    rw [h x (List.mem_cons_self ..), if_neg (by decide), idxF_none (fun y hy => h y (List.mem_cons_of_mem _ hy)), if_pos rfl]
theorem idxF_app {q : Int → Bool} : ∀ {l : List Int} {x : Int} {r : List Int}, (∀ y ∈ l, q y = false) → q x = true → idxF q (l ++ x :: r) = l.length
  | [], x, r, _, hx => by
    show idxF q (x :: r) = _
    unfold idxF
    rw [if_pos hx]
    rfl
  | y :: l, x, r, h, hx => by
    show idxF q (y :: (l ++ x :: r)) = _
    unfold idxF
    rw [h y (List.mem_cons_self ..), if_neg (by decide), idxF_app (fun z hz => h z (List.mem_cons_of_mem _ hz)) hx, if_neg (by omega)]
    simp
theorem idxF_spec {q : Int → Bool} : ∀ {l : List Int}, idxF q l = -1 ∧ (∀ x ∈ l, q x = false) ∨ ∃ a x r, l = a ++ x :: r ∧ (∀ y ∈ a, q y = false) ∧ q x = true ∧ idxF q l = a.length
  | [] => .inl ⟨rfl, by simp⟩
  | x :: r => by
    cases hq : q x with
    | true => exact .inr ⟨[], x, r, rfl, by simp, hq, by unfold idxF; rw [if_pos hq]; rfl⟩
    | false =>
      rcases idxF_spec (q := q) (l := r) with ⟨h1, h2⟩ | ⟨a, y, s, rfl, h2, h3, h4⟩
      · refine .inl ⟨by unfold idxF; rw [hq, if_neg (by decide), if_pos h1], fun y hy => ?_⟩
        rcases List.mem_cons.1 hy with rfl | hy
        · exact hq
        · exact h2 y hy
      · refine .inr ⟨x :: a, y, s, rfl, fun z hz => ?_, h3, ?_⟩
        · rcases List.mem_cons.1 hz with rfl | hz
          · exact hq
          · exact h2 z hz
        · exact idxF_app (l := x :: a) (fun z hz => by rcases List.mem_cons.1 hz with rfl | hz; exact hq; exact h2 z hz) h3
set_option maxRecDepth 20000 in
set_option maxHeartbeats 2000000 in
theorem cindexL (pv : Value) (q : Int → Bool) (bl off n c : Nat) (zs : List Int) (w : World) (hz : zs.length = n) (hn : n ≤ 1000000) (hc : ∀ j, j < n → w.cell? ⟨bl, off + j, none⟩ = some (.int .i64 (zs.getD j 0))) (hp : ∀ x ∈ zs, Calls Tryz.prog 221 #[pv, .int .i64 x] w fun e w' => e = .returned (.bool (q x)) ∧ w' = w) :
    Calls Tryz.prog 189 #[.slice (some ⟨bl, off, none⟩) n c, .func (.func 221) #[pv] #[]] w fun e w' => e = .returned (.int .i64 (idxF q zs)) ∧ w' = w := by
  have HP : Hid _ := hp
  have HC : Hid (∀ j, j < n → w.cell? ⟨bl, off + j, none⟩ = some (.int .i64 (zs.getD j 0))) := hc
  clear hp hc
  go_enter Tryz.func189, Tryz.ntmps189
  go_wp2_with fail
  go_loop [5, 8] (fun _ i => ∃ k : Nat, k ≤ n ∧ i = .int .i64 k ∧ ∀ x ∈ zs.take k, q x = false) (fun _ i => match i with | .int _ m => n - m.toNat | _ => 0)
  case atStart => exact ⟨0, Nat.zero_le _, rfl, by simp⟩
  case round =>
    obtain ⟨k, hk, rfl, hne⟩ := hrel
    by_cases hlt : k < n
    · have hx := HC.out k hlt
      have hk' : (k : Int) < (n : Int) := by omega
      have hmem : zs.getD k 0 ∈ zs := by rw [getD_at (show k < zs.length by omega)]; exact List.getElem_mem _
      have hP := HP.out _ hmem
      have hsp : zs = zs.take k ++ zs.getD k 0 :: zs.drop (k + 1) := by
        rw [getD_at (show k < zs.length by omega), ← List.drop_eq_getElem_cons, List.take_append_drop]
      have htk : zs.take (k + 1) = zs.take k ++ [zs.getD k 0] := by rw [getD_at (show k < zs.length by omega), List.take_succ_eq_append_getElem]
      generalize zs.getD k 0 = x at *
      have HSP : Hid _ := hsp
      have HTK : Hid _ := htk
      have HNE : Hid _ := hne
      clear hsp htk hne
      go_wp2_with fail
      refine hP.mono ?_
      rintro e w1 ⟨rfl, hw⟩; rw [hw]; clear hw
      cases hq : q x with
      | true =>
        have HE : Hid (idxF q zs = k) := by
          show idxF q zs = k
          rw [HSP.out, idxF_app HNE.out hq, List.length_take]
          omega
        go_wp2
        go_ret
        exact ⟨by rw [HE.out]; (first | done | rfl), rfl⟩
      | false =>
        have HN : Hid (∀ y ∈ zs.take (k + 1), q y = false) := fun y hy => by
          rw [HTK.out, List.mem_append] at hy
          rcases hy with hy | hy
          · exact HNE.out y hy
          · obtain rfl := List.mem_singleton.1 hy; exact hq
        go_wp2_with fail
        go_round
        case rel => exact ⟨k + 1, by omega, by go_num, HN.out⟩
        case measure => simp; omega
    · obtain rfl : k = n := by omega
      have HE : Hid (idxF q zs = -1) := idxF_none (fun x hx => hne x (by rw [List.take_of_length_le (by omega)]; exact hx))
      go_wp2
      go_ret
      exact ⟨by rw [HE.out]; (first | done | rfl), rfl⟩
set_option maxRecDepth 20000 in
set_option maxHeartbeats 2000000 in
theorem cindexP (pv : Value) (q : Int → Bool) (bl off n c : Nat) (zs : List Int) (w : World) (hz : zs.length = n) (hn : n ≤ 1000000) (hc : ∀ j, j < n → w.cell? ⟨bl, off + j, none⟩ = some (.int .i64 (zs.getD j 0))) (hp : ∀ x ∈ zs, Calls Tryz.prog 118 #[pv, .int .i64 x] w fun e w' => e = .returned (.bool (q x)) ∧ w' = w) :
    Calls Tryz.prog 189 #[.slice (some ⟨bl, off, none⟩) n c, .func (.func 118) #[pv] #[]] w fun e w' => e = .returned (.int .i64 (idxF q zs)) ∧ w' = w := by
  have HP : Hid _ := hp
  have HC : Hid (∀ j, j < n → w.cell? ⟨bl, off + j, none⟩ = some (.int .i64 (zs.getD j 0))) := hc
  clear hp hc
  go_enter Tryz.func189, Tryz.ntmps189
  go_wp2_with fail
  go_loop [5, 8] (fun _ i => ∃ k : Nat, k ≤ n ∧ i = .int .i64 k ∧ ∀ x ∈ zs.take k, q x = false) (fun _ i => match i with | .int _ m => n - m.toNat | _ => 0)
  case atStart => exact ⟨0, Nat.zero_le _, rfl, by simp⟩
  case round =>
    obtain ⟨k, hk, rfl, hne⟩ := hrel
    by_cases hlt : k < n
    · have hx := HC.out k hlt
      have hk' : (k : Int) < (n : Int) := by omega
      have hmem : zs.getD k 0 ∈ zs := by rw [getD_at (show k < zs.length by omega)]; exact List.getElem_mem _
      have hP := HP.out _ hmem
      have hsp : zs = zs.take k ++ zs.getD k 0 :: zs.drop (k + 1) := by
        rw [getD_at (show k < zs.length by omega), ← List.drop_eq_getElem_cons, List.take_append_drop]
      have htk : zs.take (k + 1) = zs.take k ++ [zs.getD k 0] := by rw [getD_at (show k < zs.length by omega), List.take_succ_eq_append_getElem]
      generalize zs.getD k 0 = x at *
      have HSP : Hid _ := hsp
      have HTK : Hid _ := htk
      have HNE : Hid _ := hne
      clear hsp htk hne
      go_wp2_with fail
      refine hP.mono ?_
      rintro e w1 ⟨rfl, hw⟩; rw [hw]; clear hw
      cases hq : q x with
      | true =>
        have HE : Hid (idxF q zs = k) := by
          show idxF q zs = k
          rw [HSP.out, idxF_app HNE.out hq, List.length_take]
          omega
        go_wp2
        go_ret
        exact ⟨by rw [HE.out]; (first | done | rfl), rfl⟩
      | false =>
        have HN : Hid (∀ y ∈ zs.take (k + 1), q y = false) := fun y hy => by
          rw [HTK.out, List.mem_append] at hy
          rcases hy with hy | hy
          · exact HNE.out y hy
          · obtain rfl := List.mem_singleton.1 hy; exact hq
        go_wp2_with fail
        go_round
        case rel => exact ⟨k + 1, by omega, by go_num, HN.out⟩
        case measure => simp; omega
    · obtain rfl : k = n := by omega
      have HE : Hid (idxF q zs = -1) := idxF_none (fun x hx => hne x (by rw [List.take_of_length_le (by omega)]; exact hx))
      go_wp2
      go_ret
      exact ⟨by rw [HE.out]; (first | done | rfl), rfl⟩
set_option maxRecDepth 20000 in
set_option maxHeartbeats 2000000 in
theorem cindexG (pv : Value) (q : Int → Bool) (bl off n c : Nat) (zs : List Int) (w : World) (hz : zs.length = n) (hn : n ≤ 1000000) (hc : ∀ j, j < n → w.cell? ⟨bl, off + j, none⟩ = some (.int .i64 (zs.getD j 0))) (hp : ∀ x ∈ zs, Calls Tryz.prog 191 #[pv, .int .i64 x] w fun e w' => e = .returned (.bool (q x)) ∧ w' = w) :
    Calls Tryz.prog 189 #[.slice (some ⟨bl, off, none⟩) n c, .func (.func 191) #[pv] #[]] w fun e w' => e = .returned (.int .i64 (idxF q zs)) ∧ w' = w := by
  have HP : Hid _ := hp
  have HC : Hid (∀ j, j < n → w.cell? ⟨bl, off + j, none⟩ = some (.int .i64 (zs.getD j 0))) := hc
  clear hp hc
  go_enter Tryz.func189, Tryz.ntmps189
  go_wp2_with fail
  go_loop [5, 8] (fun _ i => ∃ k : Nat, k ≤ n ∧ i = .int .i64 k ∧ ∀ x ∈ zs.take k, q x = false) (fun _ i => match i with | .int _ m => n - m.toNat | _ => 0)
  case atStart => exact ⟨0, Nat.zero_le _, rfl, by simp⟩
  case round =>
    obtain ⟨k, hk, rfl, hne⟩ := hrel
    by_cases hlt : k < n
    · have hx := HC.out k hlt
      have hk' : (k : Int) < (n : Int) := by omega
      have hmem : zs.getD k 0 ∈ zs := by rw [getD_at (show k < zs.length by omega)]; exact List.getElem_mem _
      have hP := HP.out _ hmem
      have hsp : zs = zs.take k ++ zs.getD k 0 :: zs.drop (k + 1) := by
        rw [getD_at (show k < zs.length by omega), ← List.drop_eq_getElem_cons, List.take_append_drop]
      have htk : zs.take (k + 1) = zs.take k ++ [zs.getD k 0] := by rw [getD_at (show k < zs.length by omega), List.take_succ_eq_append_getElem]
      generalize zs.getD k 0 = x at *
      have HSP : Hid _ := hsp
      have HTK : Hid _ := htk
      have HNE : Hid _ := hne
      clear hsp htk hne
      go_wp2_with fail
      refine hP.mono ?_
      rintro e w1 ⟨rfl, hw⟩; rw [hw]; clear hw
      cases hq : q x with
      | true =>
        have HE : Hid (idxF q zs = k) := by
          show idxF q zs = k
          rw [HSP.out, idxF_app HNE.out hq, List.length_take]
          omega
        go_wp2
        go_ret
        exact ⟨by rw [HE.out]; (first | done | rfl), rfl⟩
      | false =>
        have HN : Hid (∀ y ∈ zs.take (k + 1), q y = false) := fun y hy => by
          rw [HTK.out, List.mem_append] at hy
          rcases hy with hy | hy
          · exact HNE.out y hy
          · obtain rfl := List.mem_singleton.1 hy; exact hq
        go_wp2_with fail
        go_round
        case rel => exact ⟨k + 1, by omega, by go_num, HN.out⟩
        case measure => simp; omega
    · obtain rfl : k = n := by omega
      have HE : Hid (idxF q zs = -1) := idxF_none (fun x hx => hne x (by rw [List.take_of_length_le (by omega)]; exact hx))
      go_wp2
      go_ret
      exact ⟨by rw [HE.out]; (first | done | rfl), rfl⟩
end Go.Proofs.YtfbankloclhplacGreat
