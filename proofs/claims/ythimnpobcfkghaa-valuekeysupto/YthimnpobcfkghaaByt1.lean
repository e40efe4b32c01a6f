/- value.appendPacked: the bytes of one value. -/
import Derived.Test.YthimnpobcfkghaaByt
import Derived.RangeFuncBox
namespace Go.Proofs.Ythimnpobcfkghaa
open Go.RowKit Go.Lib
attribute [local go_sem ↓] Go.wp_at_zero Go.wp_at_succ

theorem below_app {base : Nat} {w X Y : World} {v : Value} {n : Nat} {xs : List Value} (hB : Below base w X) (ho : X.ownsRow base 5 1 v n xs) (hb : base ≤ X.heap.size) (hg : X.grownBy Y v.ownBlock) : Below base w Y :=
  hB.grown hg hb (fun k hk => ((World.ownsRow.lt ho) k hk).1)
theorem row_new {w : World} {base : Nat} {e : TypeId} {size : Nat} {v : Value} {n : Nat} {xs : List Value} (h : w.ownsRow base e size v n xs) {b : Nat} (hb : w.heap.size ≤ b) : some b ≠ v.ownBlock := fun e1 => by
  have := (World.ownsRow.lt h) b e1.symm
  omega
theorem cell_one_new1 (w : World) (o : Obj) (x : Value) (t : TypeId) : ∀ j u, [x][j]? = some u → ((w.alloc o).alloc (.cells #[x] t)).cell? ((⟨w.heap.size + 1, 0, none⟩ : Addr).add j) = some u := by
  have h := cell_one_new (w.alloc o) x t
  rw [show (w.alloc o).heap.size = w.heap.size + 1 by simp] at h
  exact h
theorem wrap_u64 (x : Int) : IntKind.u64.wrap x = x % 18446744073709551616 := by
  simp [IntKind.wrap, IntKind.signed, IntKind.bits]
theorem valsB_str (l : List UInt8) (s : ByteArray) : valsB l ++ strCells s = valsB (l ++ s.data.toList) := valsB_app _ _

set_option maxRecDepth 20000 in
set_option maxHeartbeats 400000 in
theorem vappP0 (base : Nat) (v : Value) (n : Nat) (xs : List UInt8) (w : World) (ho : w.ownsRow base 5 1 v n (valsB xs)) (hbase : base ≤ w.heap.size) (hn : n ≤ 1099511000000) :
    Calls Try.prog 46 #[v, (.agg #[.int .i64 (0), .int .i64 (0), .string (⟨#[]⟩)])] w fun e w' => ∃ v', e = .returned v' ∧ w'.ownsRow base 5 1 v' (n + 1) (valsB (xs ++ [0])) ∧ Below base w w' := by
  obtain ⟨i0, hi, hz0, hz1, hz2⟩ := info_parts infoB
  have HO : Hid (w.ownsRow base 5 1 v n (valsB xs)) := ho
  clear ho
  go_enter Try.func46, Try.ntmps46
  go_wp2_with (at_builtin; go_must (refine wpList_append_lies _ rfl _ _ _ rfl base 5 i0 (.int .u8 0) 1 1 Try.underlying66 hi hz0 hz1 hz2 rfl (by decide) _ (n) _ rfl (World.ownsRow.alloc (World.ownsRow.alloc HO.out _) _) _ 1 1 [.int .u8 (0)] rfl rfl (cell_one_new1 _ _ _ _) (by intro u hu; simp at hu; rw [hu]; rfl) (by decide) (by unfold maxLen; omega) (by omega) (by simp; omega) _ rfl ?_))
  intro g1 cap1 w1 hown1 hgrow hat hlt1
  have HB1 : Hid (Below base w w1) := below_app (((Below.refl _ _).alloc hbase _).alloc (by simp; omega) _) (World.ownsRow.alloc (World.ownsRow.alloc HO.out _) _) (by simp; omega) hgrow
  have HO1 : Hid (w1.ownsRow base 5 1 (.slice (some ⟨g1, 0, none⟩) (n + 1) cap1) (n + 1) (valsB (xs ++ [0]))) := by
    have := hown1
    rw [show valsB xs ++ [.int .u8 0] = valsB (xs ++ [0]) by simp [valsB]] at this
    exact this
  have hne : some w.heap.size ≠ v.ownBlock := row_new HO.out (Nat.le_refl _)
  have c0 : w1.cell? ⟨w.heap.size, 0, none⟩ = some (.int .i64 (0)) := hgrow.cell (by go_simp) hne
  have c1 : w1.cell? ⟨w.heap.size, 1, none⟩ = some (.int .i64 (0)) := hgrow.cell (by go_simp) hne
  have c2 : w1.cell? ⟨w.heap.size, 2, none⟩ = some (.string (⟨#[]⟩)) := hgrow.cell (by go_simp) hne
  have z1 : w.heap.size < w1.heap.size := Nat.lt_of_lt_of_le (by simp; omega) hgrow.size
  have hne1 : ¬ g1 = w.heap.size := by
    rcases hat with h | h
    · intro e; exact hne (by rw [h, e])
    · first | omega | (simp at h; omega)
  clear hown1 hgrow hat hne
  go_wp2
  go_ret
  exact ⟨_, rfl, HO1.out, HB1.out⟩
theorem bn_u8 (y : Nat) (hy : y ≤ 1) (l : List UInt8) : valsB l ++ [.int .u8 (y : Int)] = valsB (l ++ [UInt8.ofNat y]) := by
  have := valsB_one l y
  rw [show ((y : Int) % 256) = (y : Int) by omega] at this
  exact this

set_option maxRecDepth 20000 in
set_option maxHeartbeats 400000 in
theorem vappP1 (base : Nat) (v : Value) (n : Nat) (xs : List UInt8) (y : Nat) (w : World) (ho : w.ownsRow base 5 1 v n (valsB xs)) (hbase : base ≤ w.heap.size) (hn : n ≤ 1099511000000) (hy : y ≤ 1) :
    Calls Try.prog 46 #[v, (.agg #[.int .i64 (1), .int .i64 (y), .string (⟨#[]⟩)])] w fun e w' => ∃ v', e = .returned v' ∧ w'.ownsRow base 5 1 v' (n + 1 + 1) (valsB (xs ++ [1, UInt8.ofNat y])) ∧ Below base w w' := by
  obtain ⟨i0, hi, hz0, hz1, hz2⟩ := info_parts infoB
  have HO : Hid (w.ownsRow base 5 1 v n (valsB xs)) := ho
  clear ho
  go_enter Try.func46, Try.ntmps46
  go_wp2_with (at_builtin; go_must (refine wpList_append_lies _ rfl _ _ _ rfl base 5 i0 (.int .u8 0) 1 1 Try.underlying66 hi hz0 hz1 hz2 rfl (by decide) _ (n) _ rfl (World.ownsRow.alloc (World.ownsRow.alloc HO.out _) _) _ 1 1 [.int .u8 (1)] rfl rfl (cell_one_new1 _ _ _ _) (by intro u hu; simp at hu; rw [hu]; rfl) (by decide) (by unfold maxLen; omega) (by omega) (by simp; omega) _ rfl ?_))
  intro g1 cap1 w1 hown1 hgrow hat hlt1
  have HB1 : Hid (Below base w w1) := below_app (((Below.refl _ _).alloc hbase _).alloc (by simp; omega) _) (World.ownsRow.alloc (World.ownsRow.alloc HO.out _) _) (by simp; omega) hgrow
  have HO1 : Hid (w1.ownsRow base 5 1 (.slice (some ⟨g1, 0, none⟩) (n + 1) cap1) (n + 1) (valsB (xs ++ [1]))) := by
    have := hown1
    rw [show valsB xs ++ [.int .u8 1] = valsB (xs ++ [1]) by simp [valsB]] at this
    exact this
  have hne : some w.heap.size ≠ v.ownBlock := row_new HO.out (Nat.le_refl _)
  have c0 : w1.cell? ⟨w.heap.size, 0, none⟩ = some (.int .i64 (1)) := hgrow.cell (by go_simp) hne
  have c1 : w1.cell? ⟨w.heap.size, 1, none⟩ = some (.int .i64 (y)) := hgrow.cell (by go_simp) hne
  have c2 : w1.cell? ⟨w.heap.size, 2, none⟩ = some (.string (⟨#[]⟩)) := hgrow.cell (by go_simp) hne
  have z1 : w.heap.size < w1.heap.size := Nat.lt_of_lt_of_le (by simp; omega) hgrow.size
  have hne1 : ¬ g1 = w.heap.size := by
    rcases hat with h | h
    · intro e; exact hne (by rw [h, e])
    · first | omega | (simp at h; omega)
  clear hown1 hgrow hat hne
  have hbz : base ≤ w1.heap.size := by omega
  go_wp2_with (at_builtin; go_must (refine wpList_append_lies _ rfl _ _ _ rfl base 5 i0 (.int .u8 0) 1 1 Try.underlying66 hi hz0 hz1 hz2 rfl (by decide) _ (n + 1) _ rfl (World.ownsRow.alloc HO1.out _) _ 1 1 [.int .u8 ((y : Int))] rfl rfl (cell_one_new _ _ _) (by intro u hu; simp at hu; rw [hu]; rfl) (by decide) (by unfold maxLen; omega) (by omega) (by simp; omega) _ rfl ?_))
  intro g2 cap2 w2 hown2 hgrow2 hat2 hlt2
  have HB2 : Hid (Below base w w2) := below_app (HB1.out.alloc hbz _) (World.ownsRow.alloc HO1.out _) (by simp; omega) hgrow2
  have HO2 : Hid (w2.ownsRow base 5 1 (.slice (some ⟨g2, 0, none⟩) (n + 1 + 1) cap2) (n + 1 + 1) (valsB (xs ++ [1, UInt8.ofNat y]))) := by
    have := hown2
    rw [bn_u8 _ hy, List.append_assoc] at this
    exact this
  clear hown2 hgrow2 hat2
  go_wp2
  go_ret
  exact ⟨_, rfl, HO2.out, HB2.out⟩

set_option maxRecDepth 20000 in
set_option maxHeartbeats 400000 in
theorem vappP2 (base : Nat) (v : Value) (n : Nat) (xs : List UInt8) (x : Int) (w : World) (ho : w.ownsRow base 5 1 v n (valsB xs)) (hbase : base ≤ w.heap.size) (hn : n ≤ 1099511000000) (hx : -9223372036854775808 ≤ x ∧ x ≤ 9223372036854775807) :
    Calls Try.prog 46 #[v, (.agg #[.int .i64 (2), .int .i64 (x), .string (⟨#[]⟩)])] w fun e w' => ∃ v', e = .returned v' ∧ w'.ownsRow base 5 1 v' (n + 1 + 8) (valsB (xs ++ (2 :: beN (x % 18446744073709551616).toNat 8))) ∧ Below base w w' := by
  obtain ⟨i0, hi, hz0, hz1, hz2⟩ := info_parts infoB
  have HO : Hid (w.ownsRow base 5 1 v n (valsB xs)) := ho
  clear ho
  go_enter Try.func46, Try.ntmps46
  go_wp2_with (at_builtin; go_must (refine wpList_append_lies _ rfl _ _ _ rfl base 5 i0 (.int .u8 0) 1 1 Try.underlying66 hi hz0 hz1 hz2 rfl (by decide) _ (n) _ rfl (World.ownsRow.alloc (World.ownsRow.alloc HO.out _) _) _ 1 1 [.int .u8 (2)] rfl rfl (cell_one_new1 _ _ _ _) (by intro u hu; simp at hu; rw [hu]; rfl) (by decide) (by unfold maxLen; omega) (by omega) (by simp; omega) _ rfl ?_))
  intro g1 cap1 w1 hown1 hgrow hat hlt1
  have HB1 : Hid (Below base w w1) := below_app (((Below.refl _ _).alloc hbase _).alloc (by simp; omega) _) (World.ownsRow.alloc (World.ownsRow.alloc HO.out _) _) (by simp; omega) hgrow
  have HO1 : Hid (w1.ownsRow base 5 1 (.slice (some ⟨g1, 0, none⟩) (n + 1) cap1) (n + 1) (valsB (xs ++ [2]))) := by
    have := hown1
    rw [show valsB xs ++ [.int .u8 2] = valsB (xs ++ [2]) by simp [valsB]] at this
    exact this
  have hne : some w.heap.size ≠ v.ownBlock := row_new HO.out (Nat.le_refl _)
  have c0 : w1.cell? ⟨w.heap.size, 0, none⟩ = some (.int .i64 (2)) := hgrow.cell (by go_simp) hne
  have c1 : w1.cell? ⟨w.heap.size, 1, none⟩ = some (.int .i64 (x)) := hgrow.cell (by go_simp) hne
  have c2 : w1.cell? ⟨w.heap.size, 2, none⟩ = some (.string (⟨#[]⟩)) := hgrow.cell (by go_simp) hne
  have z1 : w.heap.size < w1.heap.size := Nat.lt_of_lt_of_le (by simp; omega) hgrow.size
  have hne1 : ¬ g1 = w.heap.size := by
    rcases hat with h | h
    · intro e; exact hne (by rw [h, e])
    · first | omega | (simp at h; omega)
  clear hown1 hgrow hat hne
  obtain ⟨x1, x2⟩ := hx
  have hbz : base ≤ w1.heap.size := by omega
  have e8 : IntKind.u64.wrap x = ((x % 18446744073709551616).toNat : Int) := by
    rw [wrap_u64]; omega
  have E8 : Hid _ := e8
  clear e8
  go_wp2_with fail
  rw [E8.out]
  refine (vappEight base _ (n + 1) (xs ++ [2]) _ _ HO1.out hbz (by omega) (by omega)).mono ?_
  rintro e w2 ⟨v2, rfl, ho2, hb2⟩
  have HO2 : Hid (w2.ownsRow base 5 1 v2 (n + 1 + 8) (valsB (xs ++ (2 :: beN (x % 18446744073709551616).toNat 8)))) := by
    rw [List.append_assoc] at ho2
    exact ho2
  have HB2 : Hid (Below base w w2) := HB1.out.trans hb2
  clear ho2 hb2
  go_wp2
  go_ret
  exact ⟨_, rfl, HO2.out, HB2.out⟩
theorem cells_two_new (w : World) (x y : Value) (t : TypeId) : ∀ j u, [x, y][j]? = some u → (w.alloc (.cells #[x, y] t)).cell? ((⟨w.heap.size, 0, none⟩ : Addr).add j) = some u :=
  World.news_of_block (w.alloc_heap_new _)
theorem two_u8 (l : List UInt8) (a b : Nat) (ha : a < 256) : valsB l ++ [.int .u8 (a : Int), .int .u8 ((b : Int) % 256)] = valsB (l ++ [UInt8.ofNat a, UInt8.ofNat b]) := by
  have h1 := valsB_one l a
  rw [show ((a : Int) % 256) = (a : Int) by omega] at h1
  have h2 := valsB_one (l ++ [UInt8.ofNat a]) b
  rw [← h1] at h2
  simpa using h2

set_option maxRecDepth 20000 in
set_option maxHeartbeats 400000 in
theorem vappP3 (base : Nat) (v : Value) (n : Nat) (xs : List UInt8) (s : ByteArray) (w : World) (ho : w.ownsRow base 5 1 v n (valsB xs)) (hbase : base ≤ w.heap.size) (hn : n ≤ 1099511000000) (hs : s.size ≤ 1000) :
    Calls Try.prog 46 #[v, (.agg #[.int .i64 (3), .int .i64 (0), .string (s)])] w fun e w' => ∃ v', e = .returned v' ∧ w'.ownsRow base 5 1 v' (n + 1 + 2 + s.size) (valsB (xs ++ (3 :: UInt8.ofNat (s.size / 256) :: UInt8.ofNat s.size :: s.data.toList))) ∧ Below base w w' := by
  obtain ⟨i0, hi, hz0, hz1, hz2⟩ := info_parts infoB
  have HO : Hid (w.ownsRow base 5 1 v n (valsB xs)) := ho
  clear ho
  go_enter Try.func46, Try.ntmps46
  go_wp2_with (at_builtin; go_must (refine wpList_append_lies _ rfl _ _ _ rfl base 5 i0 (.int .u8 0) 1 1 Try.underlying66 hi hz0 hz1 hz2 rfl (by decide) _ (n) _ rfl (World.ownsRow.alloc (World.ownsRow.alloc HO.out _) _) _ 1 1 [.int .u8 (3)] rfl rfl (cell_one_new1 _ _ _ _) (by intro u hu; simp at hu; rw [hu]; rfl) (by decide) (by unfold maxLen; omega) (by omega) (by simp; omega) _ rfl ?_))
  intro g1 cap1 w1 hown1 hgrow hat hlt1
  have HB1 : Hid (Below base w w1) := below_app (((Below.refl _ _).alloc hbase _).alloc (by simp; omega) _) (World.ownsRow.alloc (World.ownsRow.alloc HO.out _) _) (by simp; omega) hgrow
  have HO1 : Hid (w1.ownsRow base 5 1 (.slice (some ⟨g1, 0, none⟩) (n + 1) cap1) (n + 1) (valsB (xs ++ [3]))) := by
    have := hown1
    rw [show valsB xs ++ [.int .u8 3] = valsB (xs ++ [3]) by simp [valsB]] at this
    exact this
  have hne : some w.heap.size ≠ v.ownBlock := row_new HO.out (Nat.le_refl _)
  have c0 : w1.cell? ⟨w.heap.size, 0, none⟩ = some (.int .i64 (3)) := hgrow.cell (by go_simp) hne
  have c1 : w1.cell? ⟨w.heap.size, 1, none⟩ = some (.int .i64 (0)) := hgrow.cell (by go_simp) hne
  have c2 : w1.cell? ⟨w.heap.size, 2, none⟩ = some (.string (s)) := hgrow.cell (by go_simp) hne
  have z1 : w.heap.size < w1.heap.size := Nat.lt_of_lt_of_le (by simp; omega) hgrow.size
  have hne1 : ¬ g1 = w.heap.size := by
    rcases hat with h | h
    · intro e; exact hne (by rw [h, e])
    · first | omega | (simp at h; omega)
  clear hown1 hgrow hat hne
  have hbz : base ≤ w1.heap.size := by omega
  go_wp2_with (at_builtin; go_must (refine wpList_append_lies _ rfl _ _ _ rfl base 5 i0 (.int .u8 0) 1 1 Try.underlying66 hi hz0 hz1 hz2 rfl (by decide) _ (n + 1) _ rfl (World.ownsRow.alloc HO1.out _) _ 2 2 [.int .u8 ((s.size / 256 : Nat) : Int), .int .u8 ((s.size : Int) % 256)] rfl rfl (cells_two_new _ _ _ _) (by intro u hu; simp at hu; rcases hu with rfl | rfl <;> rfl) (by decide) (by unfold maxLen; omega) (by omega) (by simp; omega) _ rfl ?_))
  intro g2 cap2 w2 hown2 hgrow2 hat2 hlt2
  have HB2 : Hid (Below base w w2) := below_app (HB1.out.alloc hbz _) (World.ownsRow.alloc HO1.out _) (by simp; omega) hgrow2
  have HO2 : Hid (w2.ownsRow base 5 1 (.slice (some ⟨g2, 0, none⟩) (n + 1 + 2) cap2) (n + 1 + 2) (valsB (xs ++ [3] ++ [UInt8.ofNat (s.size / 256), UInt8.ofNat s.size]))) := by
    have := hown2
    rw [show ((s.size : Int) / 256) = ((s.size / 256 : Nat) : Int) by omega, two_u8 _ _ _ (by omega)] at this
    exact this
  have d2 : w2.cell? ⟨w.heap.size, 2, none⟩ = some (.string s) := hgrow2.cell (by go_simp) (by simp [Value.ownBlock]; omega)
  have z2 : w1.heap.size + 1 ≤ w2.heap.size := by have := hgrow2.size; simp at this; omega
  clear hown2 hgrow2 hat2 c0 c1 c2 hne1
  go_wp2_with (at_builtin; go_must (refine wpList_append_own_string _ rfl _ _ _ _ rfl base 5 i0 Try.underlying66 Try.underlying9 hi hz0 hz1 hz2 _ (n + 1 + 2) _ rfl HO2.out s rfl (by unfold maxLen; omega) (by omega) (by omega) ?_))
  intro v3 w3 hown3 hgrow3 hnil
  have HB3 : Hid (Below base w w3) := below_app HB2.out HO2.out (by omega) hgrow3
  have HO3 : Hid (w3.ownsRow base 5 1 v3 (n + 1 + 2 + s.size) (valsB (xs ++ (3 :: UInt8.ofNat (s.size / 256) :: UInt8.ofNat s.size :: s.data.toList)))) := by
    have := hown3
    rw [valsB_str] at this
    simp only [List.append_assoc, List.cons_append, List.nil_append] at this
    exact this
  clear hown3 hgrow3 hnil
  go_wp2
  go_ret
  exact ⟨_, rfl, HO3.out, HB3.out⟩

/- one value's bytes, and the bytes of i values -/
def pkV (k n : Int) (s : ByteArray) : List UInt8 := if k = 1 then [1, UInt8.ofNat (if n = 0 then 0 else 1)] else if k = 2 then 2 :: beN (n % 18446744073709551616).toNat 8 else if k = 3 then 3 :: UInt8.ofNat (s.size / 256) :: UInt8.ofNat s.size :: s.data.toList else [0]
def pkL (K N : Nat → Int) (S : Nat → ByteArray) : Nat → List UInt8
  | 0 => []
  | i + 1 => pkL K N S i ++ pkV (K i) (N i) (S i)
theorem bn_nat (n : Int) : bn (n != 0) = ((if n = 0 then 0 else 1 : Nat) : Int) := by
  by_cases h : n = 0
  · simp [h, bn]
  · simp [h, bn]
theorem vappP (base : Nat) (v : Value) (m : Nat) (xs : List UInt8) (k n : Int) (s : ByteArray) (w : World) (ho : w.ownsRow base 5 1 v m (valsB xs)) (hbase : base ≤ w.heap.size) (hm : m ≤ 1099511000000) (hn : -9223372036854775808 ≤ n ∧ n ≤ 9223372036854775807) (hs : (cs k s).size ≤ 1000) :
    Calls Try.prog 46 #[v, (.agg #[.int .i64 (ck k), .int .i64 (cn k n), .string (cs k s)])] w fun e w' => ∃ v', e = .returned v' ∧ w'.ownsRow base 5 1 v' (m + (pkV k n s).length) (valsB (xs ++ pkV k n s)) ∧ Below base w w' := by
  unfold pkV
  by_cases h1 : k = 1
  · subst h1
    rw [if_pos rfl, show ck 1 = 1 from rfl, show cn 1 n = bn (n != 0) from rfl, show cs 1 s = ⟨#[]⟩ from rfl, bn_nat]
    exact vappP1 base v m xs _ w ho hbase hm (by split <;> omega)
  · by_cases h2 : k = 2
    · subst h2
      rw [if_neg h1, if_pos rfl, show ck 2 = 2 from rfl, show cn 2 n = n from rfl, show cs 2 s = ⟨#[]⟩ from rfl]
      have := vappP2 base v m xs n w ho hbase hm hn
      rw [List.length_cons, beN_len]
      exact this
    · by_cases h3 : k = 3
      · subst h3
        rw [if_neg h1, if_neg h2, if_pos rfl, show ck 3 = 3 from rfl, show cn 3 n = 0 from rfl, show cs 3 s = s from rfl]
        have := vappP3 base v m xs s w ho hbase hm hs
        rw [show m + (3 :: UInt8.ofNat (s.size / 256) :: UInt8.ofNat s.size :: s.data.toList).length = m + 1 + 2 + s.size by
          have e : s.data.toList.length = s.size := rfl
          simp only [List.length_cons, e]; omega]
        exact this
      · rw [if_neg h1, if_neg h2, if_neg h3]
        have e1 : ck k = 0 := by simp [ck, h1, h2, h3]
        have e2 : cn k n = 0 := by simp [cn, h1, h2]
        have e3 : cs k s = ⟨#[]⟩ := by simp [cs, h3]
        rw [e1, e2, e3]
        exact vappP0 base v m xs w ho hbase hm
end Go.Proofs.Ythimnpobcfkghaa
