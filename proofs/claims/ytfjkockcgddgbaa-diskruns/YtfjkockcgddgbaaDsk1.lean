/- (disk.change).done -/
import Derived.Test.YtfjkockcgddgbaaDsk0
import Derived.Deep.QuietTactic
import Derived.BigQuiet
namespace Go.Proofs.Ytfjkockcgddgbaa
open Go.RowKit Go.Lib
attribute [local go_sem ↓] Go.wp_at_zero Go.wp_at_succ
theorem valsB_zeros (l : List UInt8) (m : Nat) : valsB l ++ List.replicate m (.int .u8 0) = valsB (l ++ List.replicate m 0) := by simp [valsB]
theorem fil_own {W : World} {base : Nat} {v : Value} {l : List UInt8} {n : Nat} (h : n ≤ l.length) (ho : W.ownsRow base 5 1 v l.length (valsB l)) : W.ownsRow base 5 1 v (fil l n).length (valsB (fil l n)) := by rw [fil_le h]; exact ho
theorem owns_sliceB {W : World} {base n : Nat} {v : Value} {xs : List Value} (h : W.ownsRow base 5 1 v n xs) : ∃ a cap, v = .slice a n cap ∧ n ≤ cap := by
  rcases h.2 with ⟨rfl, h2⟩ | ⟨g, cap, cur, rfl, _, _, h4, _⟩
  · exact ⟨none, 0, by rw [h2], by omega⟩
  · exact ⟨_, cap, rfl, h4⟩
theorem cap_le {W : World} {base n cap : Nat} {a : Option Addr} {xs : List Value} (h : W.ownsRow base 5 1 (.slice a n cap) n xs) : n ≤ cap := by
  obtain ⟨a1, c1, e, h1⟩ := owns_sliceB h
  injection e with _ _ e3
  omega
/- zeros are written behind, where there are too few bytes -/
theorem fil_row {W : World} {base : Nat} {v : Value} {l : List UInt8} {n : Nat} (h : l.length ≤ n) (ho : W.ownsRow base 5 1 v (l.length + (n - l.length)) (valsB l ++ List.replicate (n - l.length) (.int .u8 0))) : W.ownsRow base 5 1 v n (valsB (fil l n)) := by
  rw [valsB_zeros, show l.length + (n - l.length) = n by omega] at ho
  exact ho
theorem but_grown {w X Y : World} {o : Option Nat} (h : But w X o) (h' : X.grownBy Y o) : But w Y o := But.trans h h'
theorem but_alloc (w : World) (ob : Obj) (o : Option Nat) : But w (w.alloc ob) o := World.grownBy_alloc _ _ _
/- the row lies where it lay, or in a new block -/
def newB (w : World) (v v' : Value) : Prop := v'.ownBlock = v.ownBlock ∨ ∃ g, v'.ownBlock = some g ∧ w.heap.size ≤ g
theorem newB_a (w : World) (a : Option Addr) (n m cap cap' : Nat) : newB w (.slice a n cap) (.slice a m cap') := .inl (by cases a <;> rfl)
set_option maxRecDepth 20000 in
set_option maxHeartbeats 1000000 in
theorem cdone_cut (f : Int) (at' : Nat) (base : Nat) (a : Option Addr) (cap : Nat) (l : List UInt8) (w : World) (ho : w.ownsRow base 5 1 (.slice a l.length cap) l.length (valsB l)) (hbase : base ≤ w.heap.size) (hat : at' ≤ 67108864) (hl : l.length ≤ 67108864) :
    Calls Try.prog 74 #[(.agg #[.int .i64 (f), .int .i64 (at'), .string (⟨#[]⟩), .bool (true)]), .slice a l.length cap] w fun e w' => ∃ v, e = .returned v ∧ w'.ownsRow base 5 1 v at' (valsB ((fil l at').take at')) ∧ But w w' (Value.slice a l.length cap).ownBlock ∧ newB w (.slice a l.length cap) v := by
  obtain ⟨i0, hi, hz0, hz1, hz2⟩ := info_parts infoB; have HO : Hid (w.ownsRow base 5 1 (.slice a l.length cap) l.length (valsB l)) := ho; have hcp := cap_le ho; clear ho
  by_cases hgt : l.length < at'
  · have k1 : ((l.length : Int)) < (at' : Int) := by omega
    have k2 : Hid ((at' : Int) - (l.length : Int) = ((at' - l.length : Nat) : Int)) := (by omega : (at' : Int) - (l.length : Int) = ((at' - l.length : Nat) : Int))
    have hne : some w.heap.size ≠ (Value.slice a l.length cap).ownBlock := row_new HO.out (Nat.le_refl _)
    go_enter Try.func74, Try.ntmps74
    go_wp2_with (at_builtin; go_must (refine wpList_zeros_own _ rfl _ _ _ _ rfl base 5 .i64 i0 (.int .u8 0) Try.underlying56 Try.underlying3 hi hz0 hz1 hz2 rfl rfl _ l.length _ rfl (World.ownsRow.alloc HO.out _) (at' - l.length) ?q1 ?q2 ?q3 ?q4 ?_))
    case q1 => exact congrArg (Value.int IntKind.i64) k2.out
    case q2 => omega
    case q3 => omega
    case q4 => first | omega | (simp; omega)
    intro v1 w1 ho1 hg1 hob1
    have c3 : w1.cell? ⟨w.heap.size, 3, none⟩ = some (.bool true) := hg1.cell (by go_simp) hne
    have ho2 := fil_row (by omega) ho1
    obtain ⟨a1, cap1, rfl, hc1⟩ := owns_sliceB ho2
    have HO1 : Hid (w1.ownsRow base 5 1 (.slice a1 at' cap1) at' (valsB ((fil l at').take at'))) := own_eqN (own_takeN ho2 (Nat.le_refl at')) (by simp [valsB, List.map_take])
    have HB1 : Hid (But w w1 (Value.slice a l.length cap).ownBlock) := (but_alloc _ _ _).trans hg1
    have k3 : (at' : Int) ≤ (cap1 : Int) := by omega
    have k4 : (0 : Int) ≤ (at' : Int) := by omega
    have HNB : Hid (newB w (.slice a l.length cap) (.slice a1 at' cap1)) := by
      rcases hob1 with h | h
      · exact (.inl h : newB _ _ _)
      · exact (.inr ⟨w.heap.size + 1, h, by omega⟩ : newB w (.slice a l.length cap) _)
    clear ho1 ho2 hg1 hob1
    go_wp2_with fail
    go_ret
    exact ⟨_, rfl, HO1.out, HB1.out, HNB.out⟩
  · have k1 : ¬ ((l.length : Int)) < (at' : Int) := by omega
    have k3 : (at' : Int) ≤ (cap : Int) := by omega
    have k4 : (0 : Int) ≤ (at' : Int) := by omega
    have HO1 : Hid (w.ownsRow base 5 1 (.slice a at' cap) at' (valsB ((fil l at').take at'))) := by
      show w.ownsRow base 5 1 (.slice a at' cap) at' (valsB ((fil l at').take at'))
      rw [fil_le (by omega)]
      have := own_takeN HO.out (show at' ≤ l.length by omega)
      exact own_eqN this (by simp [valsB, List.map_take])
    go_enter Try.func74, Try.ntmps74
    go_wp2_with fail
    go_ret
    exact ⟨_, rfl, World.ownsRow.alloc HO1.out _, but_alloc _ _ _, newB_a w a l.length at' cap cap⟩
theorem but_drew {w X : World} {o : Option Nat} (h : But w X o) : But w X.drew o := ⟨h.os, h.tape, h.output, h.size, h.block⟩
theorem grown_drew {X Y : World} {o : Option Nat} (h : X.drew.grownBy Y o) : X.grownBy Y o := ⟨h.os, h.tape, h.output, h.size, h.block⟩
theorem but_own {w X Y : World} {g : Nat} {o : Option Nat} (h : But w X o) (hg : X.grownBy Y (some g)) (hn : some g = o ∨ w.heap.size ≤ g) : But w Y o :=
  ⟨by rw [hg.os, h.os], by rw [hg.tape, h.tape], by rw [hg.output, h.output], Nat.le_trans h.size hg.size, fun b hl hb => by
    have hne : some b ≠ some g := fun e => by
      injection e with e
      rcases hn with hn | hn
      · exact hb (by rw [e, hn])
      · omega
    rw [hg.block b (Nat.lt_of_lt_of_le hl h.size) hne]; exact h.block b hl hb⟩
/- copy of a text into bytes, as one step of a region whose order is open -/
theorem step_copyN {P : Program} {ops : Array Oper} {o : Oper} {a : Act} {w w' : World} {K : Act → World → Prop} {Q : Exit → Act → World → Prop} {E : Prop} {v' : Value} (hg : o.guard = none) (d s : Operand) (tb ts : TypeId)
    (hop : o.op = Op.call { callee := Callee.builtin Builtin.copy, args := #[d, s], argTypes := #[tb, ts] }) (u : Value) (t : ByteArray) (hd : a.eval d = u) (hs : a.eval s = .string t)
    (hr : (Builtin.copy_ #[tb, ts] o.type #[u, .string t]).run P w = .ok v' w') (hK : K (a.put o.dst v') w') :
    if Region.wanted o (yielded ops a.tmps) = true then Oper.wp P o a w K Q else E := by
  have hw : Region.wanted o (yielded ops a.tmps) = true := by simp [Region.wanted, hg]
  rw [if_pos hw]
  unfold Oper.wp
  simp [execOp, hop, resolve, invoke, builtin, hd, hs, hr, Result.andThen]
  exact hK
def putL (at' : Nat) (t : ByteArray) (l : List UInt8) : List UInt8 := l.take at' ++ ll t ++ l.drop (at' + t.size)
set_option maxRecDepth 20000 in
set_option maxHeartbeats 2000000 in
theorem cdone_put (f : Int) (at' : Nat) (t : ByteArray) (base : Nat) (a : Option Addr) (cap : Nat) (l : List UInt8) (w : World) (ho : w.ownsRow base 5 1 (.slice a l.length cap) l.length (valsB l)) (hbase : base ≤ w.heap.size) (hat : at' + t.size ≤ 67108864) (hl : l.length ≤ 67108864) (ht : 0 < t.size) :
    Calls Try.prog 74 #[(.agg #[.int .i64 (f), .int .i64 (at'), .string (t), .bool (false)]), .slice a l.length cap] w fun e w' => ∃ v, e = .returned v ∧ w'.ownsRow base 5 1 v (fil l (at' + t.size)).length (valsB (putL at' t (fil l (at' + t.size)))) ∧ But w w' (Value.slice a l.length cap).ownBlock ∧ newB w (.slice a l.length cap) v := by
  obtain ⟨i0, hi, hz0, hz1, hz2⟩ := info_parts infoB; have HO : Hid (w.ownsRow base 5 1 (.slice a l.length cap) l.length (valsB l)) := ho; have hcp := cap_le ho; clear ho
  have hne : some w.heap.size ≠ (Value.slice a l.length cap).ownBlock := row_new HO.out (Nat.le_refl _)
  by_cases hgt : l.length < at' + t.size
  · have k1 : ((l.length : Int)) < (at' : Int) + (t.size : Int) := by omega
    have k2 : Hid ((at' : Int) + (t.size : Int) - (l.length : Int) = ((at' + t.size - l.length : Nat) : Int)) := (by omega : (at' : Int) + (t.size : Int) - (l.length : Int) = ((at' + t.size - l.length : Nat) : Int))
    go_enter Try.func74, Try.ntmps74
    go_wp2_with (at_builtin; go_must (refine wpList_zeros_own _ rfl _ _ _ _ rfl base 5 .i64 i0 (.int .u8 0) Try.underlying56 Try.underlying3 hi hz0 hz1 hz2 rfl rfl _ l.length _ rfl (World.ownsRow.alloc HO.out _) (at' + t.size - l.length) ?q1 ?q2 ?q3 ?q4 ?_))
    case q1 => exact congrArg (Value.int IntKind.i64) k2.out
    case q2 => omega
    case q3 => omega
    case q4 => first | omega | (simp; omega)
    intro v1 w1 ho1 hg1 hob1
    have c1 : w1.cell? ⟨w.heap.size, 1, none⟩ = some (.int .i64 at') := hg1.cell (by go_simp) hne
    have c2 : w1.cell? ⟨w.heap.size, 2, none⟩ = some (.string t) := hg1.cell (by go_simp) hne
    have c3 : w1.cell? ⟨w.heap.size, 3, none⟩ = some (.bool false) := hg1.cell (by go_simp) hne
    have ho2 := fil_row (by omega) ho1
    obtain ⟨g, cap1, rfl, hc1, _⟩ := World.ownsRow.form ho2 (by omega)
    have hcc := cap_le ho2
    have HB1 : Hid (But w w1 (Value.slice a l.length cap).ownBlock) := (but_alloc _ _ _).trans hg1
    have k3 : (at' : Int) ≤ (at' : Int) + (t.size : Int) := by omega
    have k4 : (0 : Int) ≤ (at' : Int) := by omega
    have k5 : ¬ at' = cap1 := by omega
    obtain ⟨w2, hr, ho3, hg3⟩ := own_copyN (W := w1.drew) ho2 at' t.size (cap1 - at') t (Nat.le_refl _) (Nat.le_refl _)
    have HR : Hid _ := hr
    go_wp2_with fail
    have hfl : (fil l (at' + t.size)).length = at' + t.size := by rw [fil_len]; omega
    have HO3 : Hid (w2.ownsRow base 5 1 (.slice (some ⟨g, 0, none⟩) (at' + t.size) cap1) (fil l (at' + t.size)).length (valsB (putL at' t (fil l (at' + t.size))))) := (by rw [hfl]; exact ho3 : w2.ownsRow base 5 1 (.slice (some ⟨g, 0, none⟩) (at' + t.size) cap1) (fil l (at' + t.size)).length (valsB (putL at' t (fil l (at' + t.size)))))
    have hg' : some g = (Value.slice a l.length cap).ownBlock ∨ w.heap.size ≤ g := by
      rcases hob1 with h | h
      · exact .inl h
      · injection h with h
        have h' : g = w.heap.size + 1 := h
        exact .inr (by omega)
    have HB3 : Hid (But w w2 (Value.slice a l.length cap).ownBlock) := but_own HB1.out (grown_drew hg3) hg'
    have HNB : Hid (newB w (.slice a l.length cap) (.slice (some ⟨g, 0, none⟩) (at' + t.size) cap1)) := by
      rcases hob1 with h | h
      · exact (.inl h : newB _ _ _)
      · exact (.inr ⟨w.heap.size + 1, h, by omega⟩ : newB w (.slice a l.length cap) _)
    clear ho1 ho2 hg1 hr ho3 hg3 hfl hob1 hg'
    go_region_law (refine step_copyN rfl (.tmp 30) (.tmp 32) 56 9 rfl _ t ?s1 ?s2 HR.out ?_; (case s1 => go_simp; intro h; omega); (case s2 => go_simp))
    all_goals
      go_wp2
      go_ret
      exact ⟨_, rfl, HO3.out, HB3.out, HNB.out⟩
  · obtain ⟨g, cap1, e, hc1, _⟩ := World.ownsRow.form HO.out (by omega)
    injection e with q1 q2 q3
    subst q1 q3
    have k1 : ¬ ((l.length : Int)) < (at' : Int) + (t.size : Int) := by omega
    have k3 : (at' : Int) ≤ (l.length : Int) := by omega
    have k4 : (0 : Int) ≤ (at' : Int) := by omega
    have k5 : ¬ at' = cap := by omega
    obtain ⟨w2, hr, ho3, hg3⟩ := own_copyN (W := (w.alloc (.cells #[.int .i64 f, .int .i64 at', .string t, .bool false] 92)).drew) (World.ownsRow.alloc HO.out _) at' (l.length - at') (cap - at') t (by omega) (by omega)
    have HR : Hid _ := hr
    have hfl : fil l (at' + t.size) = l := fil_le (by omega)
    have HO3 : Hid (w2.ownsRow base 5 1 (.slice (some ⟨g, 0, none⟩) l.length cap) (fil l (at' + t.size)).length (valsB (putL at' t (fil l (at' + t.size))))) := (by rw [hfl]; exact ho3 : w2.ownsRow base 5 1 (.slice (some ⟨g, 0, none⟩) l.length cap) (fil l (at' + t.size)).length (valsB (putL at' t (fil l (at' + t.size)))))
    have HB3 : Hid (But w w2 (Value.slice (some ⟨g, 0, none⟩) l.length cap).ownBlock) := (but_alloc _ _ _).trans (grown_drew hg3)
    clear hr ho3 hg3 hfl
    go_enter Try.func74, Try.ntmps74
    go_wp2_with fail
    go_region_law (refine step_copyN rfl (.tmp 30) (.tmp 32) 56 9 rfl _ t ?s1 ?s2 HR.out ?_; (case s1 => go_simp; intro h; omega); (case s2 => go_simp))
    all_goals
      go_wp2
      go_ret
      exact ⟨_, rfl, HO3.out, HB3.out, .inl rfl⟩
theorem putL_0 {at' : Nat} {t : ByteArray} (ht : t.size = 0) (l : List UInt8) : putL at' t l = l := by
  have : ll t = [] := List.eq_nil_of_length_eq_zero (by rw [ll_len]; exact ht)
  unfold putL
  rw [this, ht, List.append_nil, Nat.add_zero, List.take_append_drop]
set_option maxRecDepth 20000 in
set_option maxHeartbeats 2000000 in
theorem cdone_nop (f : Int) (at' : Nat) (base : Nat) (a : Option Addr) (cap : Nat) (l : List UInt8) (w : World) (ho : w.ownsRow base 5 1 (.slice a l.length cap) l.length (valsB l)) (hbase : base ≤ w.heap.size) (hat : at' ≤ 67108864) (hl : l.length ≤ 67108864) :
    Calls Try.prog 74 #[(.agg #[.int .i64 (f), .int .i64 (at'), .string (⟨#[]⟩), .bool (false)]), .slice a l.length cap] w fun e w' => ∃ v, e = .returned v ∧ w'.ownsRow base 5 1 v (fil l at').length (valsB (fil l at')) ∧ But w w' (Value.slice a l.length cap).ownBlock ∧ newB w (.slice a l.length cap) v := by
  obtain ⟨i0, hi, hz0, hz1, hz2⟩ := info_parts infoB; have HO : Hid (w.ownsRow base 5 1 (.slice a l.length cap) l.length (valsB l)) := ho; have hcp := cap_le ho; clear ho
  have hne : some w.heap.size ≠ (Value.slice a l.length cap).ownBlock := row_new HO.out (Nat.le_refl _)
  have k4 : (0 : Int) ≤ (at' : Int) := by omega
  by_cases hgt : l.length < at'
  · have k1 : ((l.length : Int)) < (at' : Int) := by omega
    have k2 : Hid ((at' : Int) - (l.length : Int) = ((at' - l.length : Nat) : Int)) := (by omega : (at' : Int) - (l.length : Int) = ((at' - l.length : Nat) : Int))
    have hfl : (fil l at').length = at' := by rw [fil_len]; omega
    rw [hfl]
    clear hfl
    go_enter Try.func74, Try.ntmps74
    go_wp2_with (at_builtin; go_must (refine wpList_zeros_own _ rfl _ _ _ _ rfl base 5 .i64 i0 (.int .u8 0) Try.underlying56 Try.underlying3 hi hz0 hz1 hz2 rfl rfl _ l.length _ rfl (World.ownsRow.alloc HO.out _) (at' - l.length) ?q1 ?q2 ?q3 ?q4 ?_))
    case q1 => exact congrArg (Value.int IntKind.i64) k2.out
    case q2 => omega
    case q3 => omega
    case q4 => first | omega | (simp; omega)
    intro v1 w1 ho1 hg1 hob1
    have c1 : w1.cell? ⟨w.heap.size, 1, none⟩ = some (.int .i64 at') := hg1.cell (by go_simp) hne
    have c2 : w1.cell? ⟨w.heap.size, 2, none⟩ = some (.string ⟨#[]⟩) := hg1.cell (by go_simp) hne
    have c3 : w1.cell? ⟨w.heap.size, 3, none⟩ = some (.bool false) := hg1.cell (by go_simp) hne
    have ho2 := fil_row (by omega) ho1
    obtain ⟨g, cap1, rfl, hc1, _⟩ := World.ownsRow.form ho2 (by omega)
    have hcc := cap_le ho2
    have HO2 : Hid (w1.drew.ownsRow base 5 1 (.slice (some ⟨g, 0, none⟩) at' cap1) at' (valsB (fil l at'))) := (ho2 : w1.ownsRow base 5 1 (.slice (some ⟨g, 0, none⟩) at' cap1) at' (valsB (fil l at')))
    have HB1 : Hid (But w w1.drew (Value.slice a l.length cap).ownBlock) := but_drew ((but_alloc _ _ _).trans hg1)
    have HNB : Hid (newB w (.slice a l.length cap) (.slice (some ⟨g, 0, none⟩) at' cap1)) := by
      rcases hob1 with h | h
      · exact (.inl h : newB _ _ _)
      · exact (.inr ⟨w.heap.size + 1, h, by omega⟩ : newB w (.slice a l.length cap) _)
    clear ho1 ho2 hg1 hob1
    rcases Decidable.em (at' = cap1) with rfl | hce
    all_goals go_wp2_with fail
    all_goals
     go_region_law (refine step_copyN rfl (.tmp 30) (.tmp 32) 56 9 rfl _ ⟨#[]⟩ rfl ?s2 (copy0N _ _ _ _ _ rfl) ?_; (case s2 => go_simp))
    all_goals
      go_wp2
      go_ret
      exact ⟨_, rfl, HO2.out, HB1.out, HNB.out⟩
  · have k1 : ¬ ((l.length : Int)) < (at' : Int) := by omega
    have k3 : (at' : Int) ≤ (l.length : Int) := by omega
    have hfl : fil l at' = l := fil_le (by omega)
    rw [hfl]
    clear hfl
    rcases Decidable.em (at' = cap) with rfl | hce
    all_goals
     go_enter Try.func74, Try.ntmps74
     go_wp2_with fail
     go_region_law (refine step_copyN rfl (.tmp 30) (.tmp 32) 56 9 rfl _ ⟨#[]⟩ rfl ?s2 (copy0N _ _ _ _ _ rfl) ?_; (case s2 => go_simp))
    all_goals
      go_wp2
      go_ret
      exact ⟨_, rfl, World.ownsRow.alloc HO.out _, but_drew (but_alloc _ _ _), .inl rfl⟩
theorem onL_put {at' : Nat} {t : ByteArray} {l : List UInt8} : onL at' t false l = putL at' t (fil l (at' + t.size)) := rfl
theorem onL_cut {at' : Nat} {l : List UInt8} : onL at' ⟨#[]⟩ true l = (fil l at').take at' := rfl
theorem empty_ofN {t : ByteArray} (h : t.size = 0) : t = ⟨#[]⟩ := ll_inj (List.eq_nil_of_length_eq_zero (by rw [ll_len]; exact h))
/- a cut bears no text -/
theorem cdone (f : Int) (at' : Nat) (t : ByteArray) (cut : Bool) (base : Nat) (v : Value) (l : List UInt8) (w : World) (ho : w.ownsRow base 5 1 v l.length (valsB l)) (hbase : base ≤ w.heap.size) (hat : at' + t.size ≤ 67108864) (hl : l.length ≤ 67108864) (hc : cut = true → t.size = 0) :
    Calls Try.prog 74 #[(.agg #[.int .i64 (f), .int .i64 (at'), .string (t), .bool (cut)]), v] w fun e w' => ∃ v', e = .returned v' ∧ w'.ownsRow base 5 1 v' (onL at' t cut l).length (valsB (onL at' t cut l)) ∧ But w w' v.ownBlock ∧ newB w v v' := by
  obtain ⟨a, cap, rfl, _⟩ := owns_sliceB ho
  cases cut with
  | true =>
    obtain rfl := empty_ofN (hc rfl)
    have hn : (onL at' ⟨#[]⟩ true l).length = at' := by rw [onL_len]; rfl
    rw [hn]
    exact cdone_cut f at' base a cap l w ho hbase (by omega) hl
  | false =>
    have hn : (onL at' t false l).length = (fil l (at' + t.size)).length := by rw [onL_len, fil_len]; rfl
    rw [hn]
    by_cases ht : 0 < t.size
    · exact cdone_put f at' t base a cap l w ho hbase hat hl ht
    · obtain rfl := empty_ofN (show t.size = 0 by omega)
      refine (cdone_nop f at' base a cap l w ho hbase (by omega) hl).mono fun e w' h => ?_
      obtain ⟨v', e1, h2, h3⟩ := h
      refine ⟨v', e1, ?_, h3⟩
      rw [onL_put, putL_0 rfl]
      exact h2
end Go.Proofs.Ytfjkockcgddgbaa
