/- relstorelaw.spoil; sameValues of any two lists that are the same -/
import Derived.Test.YthimnpobcfkghaaUnp4
namespace Go.Proofs.Ythimnpobcfkghaa
open Go.RowKit Go.Lib
attribute [local go_sem ↓] Go.wp_at_zero Go.wp_at_succ
/- all blocks but one are as they were -/
def But (w X : World) (o : Option Nat) : Prop := w.grownBy X o
theorem But.refl (w : World) (o : Option Nat) : But w w o := ⟨rfl, rfl, rfl, Nat.le_refl _, fun _ _ _ => rfl⟩
theorem But.trans {w X Y : World} {o : Option Nat} (h : But w X o) (hg : But X Y o) : But w Y o :=
  ⟨by rw [hg.os, h.os], by rw [hg.tape, h.tape], by rw [hg.output, h.output], Nat.le_trans h.size hg.size, fun b hl hn => by rw [hg.block b (Nat.lt_of_lt_of_le hl h.size) hn]; exact h.block b hl hn⟩
theorem But.set {w X : World} {g : Nat} (h : But w X (some g)) (j : Nat) (u : Value) : But w (X.setCell ⟨g, j, none⟩ u) (some g) :=
  h.trans ⟨rfl, rfl, rfl, Nat.le_of_eq (by simp), fun b _ hn => Below.heap_setCell _ _ _ b (fun e => hn (by rw [e]))⟩
def nines : List Value := [.int .i64 9, .int .i64 0, .string ⟨#[]⟩, .int .i64 9, .int .i64 0, .string ⟨#[]⟩]
theorem nines_one : ∀ u ∈ nines, u.oneCell' = true := by decide
theorem newsNines (w : World) : ∀ j u, nines[j]? = some u → (w.alloc (.cells #[.int .i64 9, .int .i64 0, .string ⟨#[]⟩, .int .i64 9, .int .i64 0, .string ⟨#[]⟩] 42)).cell? ((⟨w.heap.size, 0, none⟩ : Addr).add j) = some u := by
  intro j u hj
  rw [add_none]
  match j, hj with
  | 0, h => cases h; go_simp
  | 1, h => cases h; go_simp
  | 2, h => cases h; go_simp
  | 3, h => cases h; go_simp
  | 4, h => cases h; go_simp
  | 5, h => cases h; go_simp
  | j + 6, h => simp [nines] at h
set_option maxRecDepth 20000 in
set_option maxHeartbeats 1000000 in
theorem cspoil (base : Nat) (v : Value) (n : Nat) (xs : List Value) (w : World) (ho : w.ownsRow base 42 3 v n xs) (hbase : base ≤ w.heap.size) (hn : n ≤ 1048576) :
    Calls Try.prog 15 #[v] w fun e w' => e = .returned (.tuple #[]) ∧ But w w' v.ownBlock := by
  obtain ⟨i0, hi, hz0, hz1, hz2⟩ := info_parts infoV
  obtain ⟨a, cap, rfl⟩ := owns_slice ho
  have HO : Hid (w.ownsRow base 42 3 (.slice a n cap) n xs) := ho
  clear ho
  go_enter Try.func15, Try.ntmps15
  go_wp2_with fail
  go_loopw [5] (fun y X => ∃ i : Nat, ∃ ys, y = .int .i64 i ∧ i ≤ n ∧ Hid (X.ownsRow base 42 3 (.slice a n cap) n ys) ∧ Hid (But w X (Value.slice a n cap).ownBlock)) (fun y _ => n - (intOf y).toNat)
  case atStart => exact ⟨0, xs, rfl, Nat.zero_le _, HO, But.refl _ _⟩
  case round =>
    obtain ⟨i, ys, rfl, hin, HO1, HB⟩ := hrel
    have hws := HB.out.size
    by_cases hlt : i < n
    · obtain ⟨g, cap', e, _, _⟩ := World.ownsRow.form HO1.out (by omega)
      injection e with e1 e2 e3
      subst e1
      have k0 : (0 : Int) ≤ (i : Int) := by omega
      have k1 : (i : Int) < (n : Int) := by omega
      have hl : ys.length = n * 3 := HO1.out.1
      have c0 : wr.cell? ⟨g, i * 3, none⟩ = some (ys[i * 3]'(by omega)) := by rw [HO1.out.cellAt _ (by omega)]; exact List.getElem?_eq_getElem _
      have c1 : wr.cell? ⟨g, i * 3 + 1, none⟩ = some (ys[i * 3 + 1]'(by omega)) := by rw [HO1.out.cellAt _ (by omega)]; exact List.getElem?_eq_getElem _
      have c2 : wr.cell? ⟨g, i * 3 + 1 + 1, none⟩ = some (ys[i * 3 + 1 + 1]'(by omega)) := by rw [HO1.out.cellAt _ (by omega)]; exact List.getElem?_eq_getElem _
      have f0 := HO1.out.frozenAt (i * 3)
      have f1 := HO1.out.frozenAt (i * 3 + 1)
      have f2 := HO1.out.frozenAt (i * 3 + 1 + 1)
      generalize ys[i * 3]'(by omega) = y0 at *
      generalize ys[i * 3 + 1]'(by omega) = y1 at *
      generalize ys[i * 3 + 1 + 1]'(by omega) = y2 at *
      have H1 := (HO1.out.stored (i * 3) (.int .i64 9)).1
      have H2 := (H1.stored (i * 3 + 1) (.int .i64 0)).1
      have H3 : Hid _ := (H2.stored (i * 3 + 1 + 1) (.string ⟨#[]⟩)).1
      have HBa : Hid (But w (((wr.setCell ⟨g, i * 3, none⟩ (.int .i64 9)).setCell ⟨g, i * 3 + 1, none⟩ (.int .i64 0)).setCell ⟨g, i * 3 + 1 + 1, none⟩ (.string ⟨#[]⟩)) (some g)) := ((HB.out.set (i * 3) _).set (i * 3 + 1) _).set (i * 3 + 1 + 1) _
      clear H1 H2
      go_wp2_with fail
      exact ⟨⟨i + 1, _, by go_num, by omega, H3, HBa⟩, by simp [intOf]; omega⟩
    · go_wp2_with (at_builtin; refine wpList_append_lies _ rfl _ _ _ rfl base 42 i0 (.agg #[.int .i64 (0), .int .i64 (0), .string (⟨#[]⟩)]) 3 32 Try.underlying22 hi hz0 hz1 hz2 rfl (by decide) _ n ys rfl (World.ownsRow.alloc HO1.out _) _ 2 2 nines rfl rfl ?g0 ?g00 (by decide) ?g1 ?g2 ?g3 _ rfl ?_)
      case g0 => exact newsNines _
      case g00 => exact nines_one
      case g1 => unfold maxLen; omega
      case g2 => omega
      case g3 => simp; omega
      intro g' cap2 w2 hown2 hgrow2 hat2 hlt4
      have HB2 : Hid (But w w2 (Value.slice a n cap).ownBlock) := (But.trans HB.out (World.grownBy_alloc _ _ _)).trans hgrow2
      clear hown2 hgrow2 hat2 hlt4
      go_wp2
      go_end0
      exact ⟨rfl, HB2.out⟩
set_option maxHeartbeats 1000000 in
theorem csameA (a : Option Addr) (n cap : Nat) (a' : Option Addr) (cap' : Nat) (K N : Nat → Int) (S : Nat → ByteArray) (w : World) (hA : LiesA w a n K N S) (hB : LiesA w a' n K N S) (hn : n ≤ 4398046511104) :
    Calls Try.prog 13 #[.slice a n cap, .slice a' n cap'] w fun e w' => e = .returned (.bool true) ∧ Below w.heap.size w w' := by
  by_cases h0 : n = 0
  · subst h0
    clear hA hB hn
    go_enter Try.func13, Try.ntmps13
    go_wp2
    refine wp_loop_rounds 1 ?_
    rw [rounds_succ]
    go_wp2
    go_ret
    exact ⟨rfl, Below.refl _ _⟩
  · rcases hA with hA | ⟨b, off, rfl, hA⟩
    · exact absurd hA h0
    · rcases hB with hB | ⟨b', off', rfl, hB⟩
      · exact absurd hB h0
      · have HA : Hid (Lies w b off n K N S) := hA
        have HB : Hid (Lies w b' off' n K N S) := hB
        clear hA hB h0
        go_enter Try.func13, Try.ntmps13
        go_wp2
        go_loopw [13] (fun x X => ∃ k : Nat, x = .int .i64 k ∧ k ≤ n ∧ Below w.heap.size w X) (fun x _ => n - (intOf x).toNat)
        case atStart => exact ⟨0, rfl, Nat.zero_le _, Below.refl _ _⟩
        case round =>
          obtain ⟨k, rfl, hk, hb0⟩ := hrel
          by_cases hlt : k < n
          · have ki : (0 : Int) ≤ (k : Int) := by omega
            have kn' : (k : Int) < (n : Int) := by omega
            obtain ⟨a0, a1, a2⟩ := (HA.out.below hb0) k hlt
            obtain ⟨b0, b1, b2⟩ := (HB.out.below hb0) k hlt
            have za := (HA.out.below hb0).lt (by omega)
            have zb := (HB.out.below hb0).lt (by omega)
            go_wp2_with fail
            go_region_held3 (fun w' => Below w.heap.size w w' ∧ b < w'.heap.size ∧ b' < w'.heap.size ∧ w'.cell? ⟨b, off + k * 3, none⟩ = some (.int .i64 (K k)) ∧ w'.cell? ⟨b, off + k * 3 + 1, none⟩ = some (.int .i64 (N k)) ∧ w'.cell? ⟨b, off + k * 3 + 1 + 1, none⟩ = some (.string (S k)) ∧ w'.cell? ⟨b', off' + k * 3, none⟩ = some (.int .i64 (K k)) ∧ w'.cell? ⟨b', off' + k * 3 + 1, none⟩ = some (.int .i64 (N k)) ∧ w'.cell? ⟨b', off' + k * 3 + 1 + 1, none⟩ = some (.string (S k)))
              (first | exact ⟨hb0.drew, za, zb, a0, a1, a2, b0, b1, b2⟩ | (go_split_ands; and_intros <;> assumption) | (go_split_ands; exact ⟨keepBelow (by assumption) hb, keepSize hb (by assumption), keepSize hb (by assumption), keepCell hb (by assumption) (by assumption), keepCell hb (by assumption) (by assumption), keepCell hb (by assumption) (by assumption), keepCell hb (by assumption) (by assumption), keepCell hb (by assumption) (by assumption), keepCell hb (by assumption) (by assumption)⟩))
              (first | (go_at_call 44; refine (lsame _ _ _ _).mono ?_; rintro e w' ⟨rfl, hb⟩))
            go_wp2
            go_split_ands
            go_roundw
            case rel => exact ⟨k + 1, by go_num, by omega, by assumption⟩
            case measure => simp [intOf]; omega
          · have Hb : Hid _ := hb0
            clear hb0
            go_wp2
            go_ret
            exact ⟨rfl, Hb.out⟩
end Go.Proofs.Ythimnpobcfkghaa
