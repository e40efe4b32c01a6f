/- value.appendKey -/
import Derived.Test.YthimnpobcfkghaaKeyA
namespace Go.Proofs.Ythimnpobcfkghaa
open Go.RowKit Go.Lib
attribute [local go_sem ↓] Go.wp_at_zero Go.wp_at_succ
/- append to a row of one's own, as one step of a region whose order is open -/
theorem step_append_ownN {P : Program} {ops : Array Oper} {o : Oper} {a : Act} {w : World} {K : Act → World → Prop} {Q : Exit → Act → World → Prop} {E : Prop}
    (hg : o.guard = none) (s x : Operand) (t : TypeId) (hop : o.op = Op.call { callee := Callee.builtin Builtin.append, args := #[s, x], argTypes := #[t, t] })
    (base : Nat) (e : TypeId) (i : TypeInfo) (z : Value) (size bytes : Nat) (h1 : P.underlying t = some (.slice e)) (h2 : P.info? e = some i) (h3 : i.zero = some z) (h4 : i.size = size) (h5 : i.bytes = bytes) (h6 : z.cells.size = size) (h7 : 0 < size)
    (v : Value) (n : Nat) (xs : List Value) (hs : a.eval s = v) (hown : w.ownsRow base e size v n xs)
    (ad : Addr) (m c : Nat) (news : List Value) (hx : a.eval x = .slice (some ad) m c) (hn : news.length = m * size) (hc : ∀ j u, news[j]? = some u → w.cell? (ad.add j) = some u) (h1c : ∀ u ∈ news, u.oneCell' = true)
    (b1 : n + m ≤ maxLen) (b2 : (n + m) * bytes ≤ 140737488355328) (hbase : base ≤ w.heap.size)
    (hK : ∀ v' w', w'.ownsRow base e size v' (n + m) (xs ++ news) → w.grownBy w' v.ownBlock → K (a.put o.dst v') w') :
    if Region.wanted o (yielded ops a.tmps) = true then Oper.wp P o a w K Q else E := by
  have hw : Region.wanted o (yielded ops a.tmps) = true := by simp [Region.wanted, hg]
  rw [if_pos hw]
  obtain ⟨v', w', hrun, r1, r2, _⟩ := run_append_own (P := P) w base t o.type e i z size bytes h1 h2 h3 h4 h5 h6 h7 v n xs hown ad m c news hn hc h1c b1 b2 hbase
  unfold Oper.wp
  simp [execOp, hop, resolve, invoke, builtin, hs, hx, hrun, Result.andThen]
  exact hK v' w' r1 r2
/- a call, as one step of it -/
theorem step_callN {P : Program} {ops : Array Oper} {o : Oper} {a : Act} {w : World} {K : Act → World → Prop} {Q : Exit → Act → World → Prop} {E : Prop} (hg : o.guard = none)
    {f : FuncId} {args : Array Value} {R : Value → World → Prop} (hr : (execOp a.eval o).run P w = .ok (.enter f args) w)
    (hc : Calls P f args w fun e w' => ∃ v, e = .returned v ∧ R v w') (hK : ∀ v w', R v w' → K (a.put o.dst v) w') :
    if Region.wanted o (yielded ops a.tmps) = true then Oper.wp P o a w K Q else E := by
  have hw : Region.wanted o (yielded ops a.tmps) = true := by simp [Region.wanted, hg]
  rw [if_pos hw]
  simp only [Oper.wp, hr, Oper.upon]
  refine hc.mono fun e w' he => ?_
  obtain ⟨v, rfl, hR⟩ := he
  exact hK v w' hR
set_option maxRecDepth 20000 in
set_option maxHeartbeats 400000 in
theorem vappK0 (base : Nat) (v : Value) (n : Nat) (xs : List UInt8) (k m : Int) (s : ByteArray) (w : World) (ho : w.ownsRow base 5 1 v n (valsB xs)) (hbase : base ≤ w.heap.size) (hn : n ≤ 1099511000000) (h1 : ¬ k = 1) (h2 : ¬ k = 2) (h3 : ¬ k = 3) :
    Calls Try.prog 41 #[v, (.agg #[.int .i64 (k), .int .i64 (m), .string (s)])] w fun e w' => ∃ v', e = .returned v' ∧ w'.ownsRow base 5 1 v' (n + 1) (valsB (xs ++ [1])) ∧ Below base w w' := by
  obtain ⟨i0, hi, hz0, hz1, hz2⟩ := info_parts infoB
  have HO : Hid (w.ownsRow base 5 1 v n (valsB xs)) := ho
  clear ho
  go_enter Try.func41, Try.ntmps41
  go_wp2_with (at_builtin; go_must (refine wpList_append_lies _ rfl _ _ _ rfl base 5 i0 (.int .u8 0) 1 1 Try.underlying66 hi hz0 hz1 hz2 rfl (by decide) _ (n) _ rfl (World.ownsRow.alloc (World.ownsRow.alloc HO.out _) _) _ 1 1 [.int .u8 1] rfl rfl ?q1 ?q2 (by decide) ?q3 ?q4 ?q5 _ rfl ?_))
  case q1 => exact cell_one_new1 _ _ _ _
  case q2 => intro u hu; simp at hu; rw [hu]; rfl
  case q3 => unfold maxLen; omega
  case q4 => omega
  case q5 => simp; omega
  intro g1 cap1 w1 hown1 hgrow hat hlt1
  have HB1 : Hid (Below base w w1) := below_app (((Below.refl _ _).alloc hbase _).alloc (by simp; omega) _) (World.ownsRow.alloc (World.ownsRow.alloc HO.out _) _) (by simp; omega) hgrow
  have HO1 : Hid (w1.ownsRow base 5 1 (.slice (some ⟨g1, 0, none⟩) (n + 1) cap1) (n + 1) (valsB (xs ++ [1]))) := by
    have := hown1
    rw [show valsB xs ++ [.int .u8 1] = valsB (xs ++ [1]) by simp [valsB]] at this
    exact this
  clear hown1 hgrow hat
  go_wp2
  go_ret
  exact ⟨_, rfl, HO1.out, HB1.out⟩
set_option maxRecDepth 20000 in
set_option maxHeartbeats 400000 in
theorem vappK1 (base : Nat) (v : Value) (n : Nat) (xs : List UInt8) (m : Int) (s : ByteArray) (w : World) (ho : w.ownsRow base 5 1 v n (valsB xs)) (hbase : base ≤ w.heap.size) (hn : n ≤ 1099511000000) :
    Calls Try.prog 41 #[v, (.agg #[.int .i64 (1), .int .i64 (m), .string (s)])] w fun e w' => ∃ v', e = .returned v' ∧ w'.ownsRow base 5 1 v' (n + 1) (valsB (xs ++ [if m = 0 then 2 else 3])) ∧ Below base w w' := by
  obtain ⟨i0, hi, hz0, hz1, hz2⟩ := info_parts infoB
  have HO : Hid (w.ownsRow base 5 1 v n (valsB xs)) := ho
  clear ho
  by_cases h0 : m = 0
  · have ht : isT 1 m = false := by rw [h0]; rfl
    rw [if_pos h0]
    go_enter Try.func41, Try.ntmps41
    go_wp2_with fail
    refine (visTrue _ _ _ _).mono ?_
    rintro e w0 ⟨rfl, hb0⟩
    have HO0 : Hid (w0.ownsRow base 5 1 v n (valsB xs)) := row_below (World.ownsRow.alloc HO.out _) hb0
    have HB0 : Hid (Below base w w0) := ((Below.refl _ _).alloc hbase _).trans (hb0.mono (by simp; omega))
    have hz := HB0.out.size
    clear hb0
    go_wp2_with (at_builtin; go_must (refine wpList_append_lies _ rfl _ _ _ rfl base 5 i0 (.int .u8 0) 1 1 Try.underlying66 hi hz0 hz1 hz2 rfl (by decide) _ (n) _ rfl (World.ownsRow.alloc HO0.out _) _ 1 1 [.int .u8 2] rfl rfl ?q1 ?q2 (by decide) ?q3 ?q4 ?q5 _ rfl ?_))
    case q1 => exact cell_one_new _ _ _
    case q2 => intro u hu; simp at hu; rw [hu]; rfl
    case q3 => unfold maxLen; omega
    case q4 => omega
    case q5 => simp; omega
    intro g1 cap1 w1 hown1 hgrow hat hlt1
    have HB1 : Hid (Below base w w1) := below_app (HB0.out.alloc (by omega) _) (World.ownsRow.alloc HO0.out _) (by simp; omega) hgrow
    have HO1 : Hid (w1.ownsRow base 5 1 (.slice (some ⟨g1, 0, none⟩) (n + 1) cap1) (n + 1) (valsB (xs ++ [2]))) := by
      have := hown1
      rw [show valsB xs ++ [.int .u8 2] = valsB (xs ++ [2]) by simp [valsB]] at this
      exact this
    clear hown1 hgrow hat
    go_wp2
    go_ret
    exact ⟨_, rfl, HO1.out, HB1.out⟩
  · have ht : isT 1 m = true := by unfold isT; simp [h0]
    rw [if_neg h0]
    go_enter Try.func41, Try.ntmps41
    go_wp2_with fail
    refine (visTrue _ _ _ _).mono ?_
    rintro e w0 ⟨rfl, hb0⟩
    have HO0 : Hid (w0.ownsRow base 5 1 v n (valsB xs)) := row_below (World.ownsRow.alloc HO.out _) hb0
    have HB0 : Hid (Below base w w0) := ((Below.refl _ _).alloc hbase _).trans (hb0.mono (by simp; omega))
    have hz := HB0.out.size
    clear hb0
    go_wp2_with (at_builtin; go_must (refine wpList_append_lies _ rfl _ _ _ rfl base 5 i0 (.int .u8 0) 1 1 Try.underlying66 hi hz0 hz1 hz2 rfl (by decide) _ (n) _ rfl (World.ownsRow.alloc HO0.out _) _ 1 1 [.int .u8 3] rfl rfl ?q1 ?q2 (by decide) ?q3 ?q4 ?q5 _ rfl ?_))
    case q1 => exact cell_one_new _ _ _
    case q2 => intro u hu; simp at hu; rw [hu]; rfl
    case q3 => unfold maxLen; omega
    case q4 => omega
    case q5 => simp; omega
    intro g1 cap1 w1 hown1 hgrow hat hlt1
    have HB1 : Hid (Below base w w1) := below_app (HB0.out.alloc (by omega) _) (World.ownsRow.alloc HO0.out _) (by simp; omega) hgrow
    have HO1 : Hid (w1.ownsRow base 5 1 (.slice (some ⟨g1, 0, none⟩) (n + 1) cap1) (n + 1) (valsB (xs ++ [3]))) := by
      have := hown1
      rw [show valsB xs ++ [.int .u8 3] = valsB (xs ++ [3]) by simp [valsB]] at this
      exact this
    clear hown1 hgrow hat
    go_wp2
    go_ret
    exact ⟨_, rfl, HO1.out, HB1.out⟩
theorem bits_xor_u64N (a b : Nat) (ha : a < 18446744073709551616) (hb : b < 18446744073709551616) : bits .xor .u64 (a : Int) (b : Int) = ((a ^^^ b : Nat) : Int) := by
  have hx : a ^^^ b < 2 ^ 64 := Nat.xor_lt_two_pow (by omega) (by omega)
  have h1 : (BitVec.ofInt 64 (a : Int)).toNat = a := by
    rw [BitVec.ofInt_natCast, BitVec.toNat_ofNat]; exact Nat.mod_eq_of_lt (by omega)
  have h2 : (BitVec.ofInt 64 (b : Int)).toNat = b := by
    rw [BitVec.ofInt_natCast, BitVec.toNat_ofNat]; exact Nat.mod_eq_of_lt (by omega)
  show IntKind.u64.wrap ((BitVec.ofInt 64 (a : Int) ^^^ BitVec.ofInt 64 (b : Int)).toNat : Int) = _
  rw [BitVec.toNat_xor, h1, h2, IntKind.wrap_u64]
  omega
theorem xor_u64N (m : Int) : bits .xor .u64 (IntKind.u64.wrap m) 9223372036854775808 = (((m + 9223372036854775808) % 18446744073709551616).toNat : Int) := by
  have e : IntKind.u64.wrap m = ((m % 18446744073709551616).toNat : Int) := by rw [IntKind.wrap_u64]; omega
  have h := bits_xor_u64N (m % 18446744073709551616).toNat 9223372036854775808 (by omega) (by omega)
  have e2 : ((9223372036854775808 : Nat) : Int) = 9223372036854775808 := rfl
  rw [xor63 _ (by omega), e2] at h
  rw [e, h]
  omega
set_option maxRecDepth 20000 in
set_option maxHeartbeats 1000000 in
theorem vappK2 (base : Nat) (v : Value) (n : Nat) (xs : List UInt8) (m : Int) (s : ByteArray) (w : World) (ho : w.ownsRow base 5 1 v n (valsB xs)) (hbase : base ≤ w.heap.size) (hn : n ≤ 1099511000000) :
    Calls Try.prog 41 #[v, (.agg #[.int .i64 (2), .int .i64 (m), .string (s)])] w fun e w' => ∃ v', e = .returned v' ∧ w'.ownsRow base 5 1 v' (n + 1 + 8) (valsB (xs ++ [4] ++ beN ((m + 9223372036854775808) % 18446744073709551616).toNat 8)) ∧ Below base w w' := by
  obtain ⟨i0, hi, hz0, hz1, hz2⟩ := info_parts infoB
  have HO : Hid (w.ownsRow base 5 1 v n (valsB xs)) := ho
  have HX : Hid (bits .xor .u64 (IntKind.u64.wrap m) 9223372036854775808 = (((m + 9223372036854775808) % 18446744073709551616).toNat : Int)) := xor_u64N m
  have hx : ((m + 9223372036854775808) % 18446744073709551616).toNat < 18446744073709551616 := by omega
  have hne : some w.heap.size ≠ v.ownBlock := row_new HO.out (Nat.le_refl _)
  clear ho
  generalize ((m + 9223372036854775808) % 18446744073709551616).toNat = x at *
  go_enter Try.func41, Try.ntmps41
  go_wp2_with fail
  go_region_law (first
    | (refine step_append_ownN rfl (.tmp 19) (.tmp 20) 66 rfl base 5 i0 (.int .u8 0) 1 1 Try.underlying66 hi hz0 hz1 hz2 rfl (by decide) v n (valsB xs) ?s1 ?s2 ⟨w.heap.size + 1, 0, none⟩ 1 1 [.int .u8 4] ?s3 rfl ?s4 ?s5 ?s6 ?s7 ?s8 ?_; (case s1 => go_simp); (case s2 => exact World.ownsRow.alloc (World.ownsRow.alloc HO.out _) _); (case s3 => go_simp); (case s4 => exact cell_one_new1 _ _ _ _); (case s5 => intro u hu; simp at hu; rw [hu]; rfl); (case s6 => unfold maxLen; omega); (case s7 => omega); (case s8 => first | (simp; done) | (simp; omega)); intro v1 w1 ho1 hg1; have HO1 : Hid (w1.ownsRow base 5 1 v1 (n + 1) (valsB (xs ++ [4]))) := own_eqN ho1 (by simp [valsB]); have HB1 : Hid (Below base w w1) := below_app ((((Below.refl _ _).alloc hbase _).alloc (by first | (simp; done) | (simp; omega)) _).drew) (World.ownsRow.alloc (World.ownsRow.alloc HO.out _) _) (by first | (simp; done) | (simp; omega)) hg1; have c1 : w1.cell? ⟨w.heap.size, 1, none⟩ = some (.int .i64 m) := hg1.cell (by go_simp) hne; have z1 : w.heap.size + 1 < w1.heap.size := Nat.lt_of_lt_of_le (by simp) hg1.size; clear ho1 hg1)
    | (refine step_callN rfl (f := 63) (args := #[v1, .int .u64 (x : Int)]) (R := fun r w2 => w2.ownsRow base 5 1 r (n + 1 + 8) (valsB (xs ++ [4] ++ beN x 8)) ∧ Below base w1 w2) ?r1 ?r2 ?_; (case r1 => simp only [execOp]; go_simp; rw [HX.out]); (case r2 => refine (vappEight base v1 (n + 1) (xs ++ [4]) x w1 HO1.out (by omega) (by omega) hx).mono ?_; rintro e w2 ⟨v2, rfl, h1, h2⟩; exact ⟨v2, rfl, h1, h2⟩); intro v2 w2 hR; have HR : Hid _ := hR; clear hR))
  all_goals
    go_wp2
    go_ret
    exact ⟨_, rfl, HR.out.1, HB1.out.trans HR.out.2⟩
set_option maxRecDepth 20000 in
set_option maxHeartbeats 1000000 in
theorem vappK3 (base : Nat) (v : Value) (n : Nat) (xs : List UInt8) (m : Int) (s : ByteArray) (w : World) (ho : w.ownsRow base 5 1 v n (valsB xs)) (hbase : base ≤ w.heap.size) (hn : n + 1 + 2 * s.size ≤ 1099511627776) :
    Calls Try.prog 41 #[v, (.agg #[.int .i64 (3), .int .i64 (m), .string (s)])] w fun e w' => ∃ v', e = .returned v' ∧ w'.ownsRow base 5 1 v' (n + 1 + ((esc (ll s)).length + 2)) (valsB (xs ++ [5] ++ (esc (ll s) ++ [0, 1]))) ∧ Below base w w' := by
  obtain ⟨i0, hi, hz0, hz1, hz2⟩ := info_parts infoB
  have HO : Hid (w.ownsRow base 5 1 v n (valsB xs)) := ho
  have hne : some w.heap.size ≠ v.ownBlock := row_new HO.out (Nat.le_refl _)
  clear ho
  go_enter Try.func41, Try.ntmps41
  go_wp2_with fail
  go_region_law (first
    | (refine step_append_ownN rfl (.tmp 29) (.tmp 30) 66 rfl base 5 i0 (.int .u8 0) 1 1 Try.underlying66 hi hz0 hz1 hz2 rfl (by decide) v n (valsB xs) ?s1 ?s2 ⟨w.heap.size + 1, 0, none⟩ 1 1 [.int .u8 5] ?s3 rfl ?s4 ?s5 ?s6 ?s7 ?s8 ?_; (case s1 => go_simp); (case s2 => exact World.ownsRow.alloc (World.ownsRow.alloc HO.out _) _); (case s3 => go_simp); (case s4 => exact cell_one_new1 _ _ _ _); (case s5 => intro u hu; simp at hu; rw [hu]; rfl); (case s6 => unfold maxLen; omega); (case s7 => omega); (case s8 => first | (simp; done) | (simp; omega)); intro v1 w1 ho1 hg1; have HO1 : Hid (w1.ownsRow base 5 1 v1 (n + 1) (valsB (xs ++ [5]))) := own_eqN ho1 (by simp [valsB]); have HB1 : Hid (Below base w w1) := below_app ((((Below.refl _ _).alloc hbase _).alloc (by first | (simp; done) | (simp; omega)) _).drew) (World.ownsRow.alloc (World.ownsRow.alloc HO.out _) _) (by first | (simp; done) | (simp; omega)) hg1; have c1 : w1.cell? ⟨w.heap.size, 2, none⟩ = some (.string s) := hg1.cell (by go_simp) hne; have z1 : w.heap.size + 1 < w1.heap.size := Nat.lt_of_lt_of_le (by simp) hg1.size; clear ho1 hg1)
    | (refine step_callN rfl (f := 64) (args := #[v1, .string s]) (R := fun r w2 => w2.ownsRow base 5 1 r (n + 1 + ((esc (ll s)).length + 2)) (valsB (xs ++ [5] ++ (esc (ll s) ++ [0, 1]))) ∧ Below base w1 w2) ?r1 ?r2 ?_; (case r1 => simp only [execOp]; go_simp); (case r2 => refine (vappKT base v1 (n + 1) (xs ++ [5]) s w1 HO1.out (by omega) (by omega)).mono ?_; rintro e w2 ⟨v2, rfl, h1, h2⟩; exact ⟨v2, rfl, h1, h2⟩); intro v2 w2 hR; have HR : Hid _ := hR; clear hR))
  all_goals
    go_wp2
    go_ret
    exact ⟨_, rfl, HR.out.1, HB1.out.trans HR.out.2⟩
theorem kyV_nat (k n : Int) (s : ByteArray) : (kyV k n s).length ≤ 9 + 2 * s.size := kyV_len k n s
theorem vappKey (base : Nat) (v : Value) (n : Nat) (xs : List UInt8) (k m : Int) (s : ByteArray) (w : World) (ho : w.ownsRow base 5 1 v n (valsB xs)) (hbase : base ≤ w.heap.size) (hn : n + 1 + 2 * s.size ≤ 1099511000000) :
    Calls Try.prog 41 #[v, (.agg #[.int .i64 (k), .int .i64 (m), .string (s)])] w fun e w' => ∃ v', e = .returned v' ∧ w'.ownsRow base 5 1 v' (n + (kyV k m s).length) (valsB (xs ++ kyV k m s)) ∧ Below base w w' := by
  unfold kyV
  by_cases h1 : k = 1
  · subst h1
    rw [if_pos rfl]
    exact vappK1 base v n xs m s w ho hbase (by omega)
  · rw [if_neg h1]
    by_cases h2 : k = 2
    · subst h2
      rw [if_pos rfl]
      refine (vappK2 base v n xs m s w ho hbase (by omega)).mono fun e w' h => ?_
      obtain ⟨v', e1, h3, h4⟩ := h
      rw [List.append_assoc] at h3
      exact ⟨v', e1, by rw [List.length_cons, beN_len]; exact h3, h4⟩
    · rw [if_neg h2]
      by_cases h3 : k = 3
      · subst h3
        rw [if_pos rfl]
        refine (vappK3 base v n xs m s w ho hbase (by omega)).mono fun e w' h => ?_
        obtain ⟨v', e1, h3, h4⟩ := h
        rw [List.append_assoc] at h3
        refine ⟨v', e1, ?_, h4⟩
        have e9 : n + 1 + ((esc (ll s)).length + 2) = n + (5 :: (esc (ll s) ++ [0, 1]) : List UInt8).length := by simp; omega
        rw [e9] at h3
        exact h3
      · rw [if_neg h3]
        exact vappK0 base v n xs k m s w ho hbase (by omega) h1 h2 h3
end Go.Proofs.Ythimnpobcfkghaa
