/- relstorekeep's sign, pure, clean, sameValues; value.Rows of lists that may be empty -/
import Derived.Test.YthimnpobcfkghaaSrtP
namespace Go.Proofs.Ythimnpobcfkghaa
open Go.RowKit Go.Lib
attribute [local go_sem ↓] Go.wp_at_zero Go.wp_at_succ
set_option maxHeartbeats 400000 in
theorem ksign (a b : Bool) (w : World) : Calls Try.prog 20 #[.bool a, .bool b] w fun e w' => e = .returned (.int .i64 (signI a b)) ∧ w' = w := by
  cases a <;> cases b
  all_goals
    go_enter Try.func20, Try.ntmps20
    go_wp2
    go_ret
    exact ⟨rfl, rfl⟩
set_option maxHeartbeats 1000000 in
theorem kpure (k n : Int) (s : ByteArray) (w : World) : Calls Try.prog 52 #[(.agg #[.int .i64 (k), .int .i64 (n), .string (s)])] w fun e w' => e = .returned (.agg #[.int .i64 (ck k), .int .i64 (cn k n), .string (cs k s)]) ∧ Below w.heap.size w w' := by
  by_cases h1 : k = 1
  · subst h1
    by_cases h0 : n = 0
    · subst h0
      go_enter Try.func52, Try.ntmps52
      go_wp2_with fail
      refine bodyPost_ret (v := (.agg #[.int .i64 (1), .int .i64 (0), .string (⟨#[]⟩)])) (by simp [results, Try.results52, go_sem]) rfl ⟨rfl, ?_⟩
      first | exact (((Below.refl _ _).alloc (Nat.le_refl _) _).alloc (by simp) _) | exact ((((((Below.refl _ _).alloc (Nat.le_refl _) _).alloc (by simp) _)).setCell (by simp <;> omega) _).setCell (by simp <;> omega) _).setCell (by simp <;> omega) _
    · have e : cn 1 n = 1 := by show bn (n != 0) = 1; simp [bn, h0]
      rw [e]
      clear e
      go_enter Try.func52, Try.ntmps52
      go_wp2_with fail
      refine bodyPost_ret (v := (.agg #[.int .i64 (1), .int .i64 (1), .string (⟨#[]⟩)])) (by simp [results, Try.results52, go_sem]) rfl ⟨rfl, ?_⟩
      first | exact (((Below.refl _ _).alloc (Nat.le_refl _) _).alloc (by simp) _) | exact ((((((Below.refl _ _).alloc (Nat.le_refl _) _).alloc (by simp) _)).setCell (by simp <;> omega) _).setCell (by simp <;> omega) _).setCell (by simp <;> omega) _
  by_cases h2 : k = 2
  · subst h2
    go_enter Try.func52, Try.ntmps52
    go_wp2_with fail
    refine bodyPost_ret (v := (.agg #[.int .i64 (2), .int .i64 (n), .string (⟨#[]⟩)])) (by simp [results, Try.results52, go_sem]) rfl ⟨rfl, ?_⟩
    first | exact (((Below.refl _ _).alloc (Nat.le_refl _) _).alloc (by simp) _) | exact ((((((Below.refl _ _).alloc (Nat.le_refl _) _).alloc (by simp) _)).setCell (by simp <;> omega) _).setCell (by simp <;> omega) _).setCell (by simp <;> omega) _
  by_cases h3 : k = 3
  · subst h3
    go_enter Try.func52, Try.ntmps52
    go_wp2_with fail
    refine bodyPost_ret (v := (.agg #[.int .i64 (3), .int .i64 (0), .string (s)])) (by simp [results, Try.results52, go_sem]) rfl ⟨rfl, ?_⟩
    first | exact (((Below.refl _ _).alloc (Nat.le_refl _) _).alloc (by simp) _) | exact ((((((Below.refl _ _).alloc (Nat.le_refl _) _).alloc (by simp) _)).setCell (by simp <;> omega) _).setCell (by simp <;> omega) _).setCell (by simp <;> omega) _
  have e1 : ck k = 0 := by simp [ck, h1, h2, h3]
  have e2 : cn k n = 0 := by simp [cn, h1, h2]
  have e3 : cs k s = ⟨#[]⟩ := by simp [cs, h3]
  rw [e1, e2, e3]
  clear e1 e2 e3
  go_enter Try.func52, Try.ntmps52
  go_wp2
  refine bodyPost_ret (v := (.agg #[.int .i64 (0), .int .i64 (0), .string (⟨#[]⟩)])) (by simp [results, Try.results52, go_sem]) rfl ⟨rfl, ?_⟩
  first | exact (((Below.refl _ _).alloc (Nat.le_refl _) _).alloc (by simp) _) | exact ((((((Below.refl _ _).alloc (Nat.le_refl _) _).alloc (by simp) _)).setCell (by simp <;> omega) _).setCell (by simp <;> omega) _).setCell (by simp <;> omega) _
set_option maxRecDepth 20000 in
set_option maxHeartbeats 1000000 in
theorem kclean (a : Option Addr) (n cap : Nat) (K N : Nat → Int) (S : Nat → ByteArray) (w : World) (hA : LiesA w a n K N S) (hn : n ≤ 1048576) :
    Calls Try.prog 24 #[.slice a n cap] w fun e w' => ∃ v, e = .returned v ∧ w'.ownsRow w.heap.size 42 3 v n (cellsF n (fun i => ck (K i)) (fun i => cn (K i) (N i)) (fun i => cs (K i) (S i))) ∧ Below w.heap.size w w' := by
  obtain ⟨i0, hi, hz0, hz1, hz2⟩ := info_parts infoV
  have HA : Hid (LiesA w a n K N S) := hA
  clear hA
  go_enter Try.func24, Try.ntmps24
  go_wp2_with fail
  go_loopw [3, 8] (fun v y X => ∃ i : Nat, y = .int .i64 i ∧ i ≤ n ∧ Hid (X.ownsRow w.heap.size 42 3 v i (cellsF i (fun i => ck (K i)) (fun i => cn (K i) (N i)) (fun i => cs (K i) (S i)))) ∧ Hid (Below w.heap.size w X)) (fun _ y _ => n - (intOf y).toNat)
  case atStart => exact ⟨0, rfl, Nat.zero_le _, World.ownsRow_nil _ _ _ _, Below.refl _ _⟩
  case round =>
    obtain ⟨i, rfl, hin, HO, HB⟩ := hrel
    have zb := HB.out.size
    by_cases hlt : i < n
    · have ki : (0 : Int) ≤ (i : Int) := by omega
      have kn : (i : Int) < (n : Int) := by omega
      obtain ⟨b, off, rfl, hl⟩ : ∃ b off, a = some ⟨b, off, none⟩ ∧ Lies wr b off n K N S := by
        rcases HA.out.below HB.out with h | h
        · omega
        · exact h
      obtain ⟨a0, a1, a2⟩ := hl i hlt
      have za := hl.lt (by omega)
      clear hl
      go_wp2_with fail
      refine (kpure _ _ _ _).mono ?_
      rintro e w1 ⟨rfl, hb1⟩
      have HB1 : Hid (Below w.heap.size w w1) := (HB.out.alloc zb _).trans (hb1.mono (by simp; omega))
      have HO1 : Hid (w1.ownsRow w.heap.size 42 3 u3 i (cellsF i (fun i => ck (K i)) (fun i => cn (K i) (N i)) (fun i => cs (K i) (S i)))) := row_below (World.ownsRow.alloc HO.out _) hb1
      have hz := HB1.out.size
      clear hb1 a0 a1 a2
      go_wp2_with (at_builtin; go_must (refine wpList_append_lies _ rfl _ _ _ rfl w.heap.size 42 i0 (.agg #[.int .i64 (0), .int .i64 (0), .string (⟨#[]⟩)]) 3 32 Try.underlying22 hi hz0 hz1 hz2 rfl (by decide) _ i _ rfl (World.ownsRow.alloc HO1.out _) _ 1 1 [.int .i64 (ck (K i)), .int .i64 (cn (K i) (N i)), .string (cs (K i) (S i))] rfl rfl ?g0 ?g00 (by decide) ?g1 ?g2 ?g3 _ rfl ?_))
      case g0 => exact newsV _ _ _ _
      case g00 => simp [Value.oneCell']
      case g1 => unfold maxLen; omega
      case g2 => omega
      case g3 => simp; omega
      intro g' cap2 w4 hown2 hgrow2 hat2 hlt4
      have HB4 : Hid (Below w.heap.size w w4) := below_appV (HB1.out.alloc hz _) (World.ownsRow.alloc HO1.out _) (by simp; omega) hgrow2
      have HO4 : Hid (w4.ownsRow w.heap.size 42 3 (.slice (some ⟨g', 0, none⟩) (i + 1) cap2) (i + 1) (cellsF (i + 1) (fun i => ck (K i)) (fun i => cn (K i) (N i)) (fun i => cs (K i) (S i)))) := by
        show w4.ownsRow w.heap.size 42 3 (.slice (some ⟨g', 0, none⟩) (i + 1) cap2) (i + 1) (cellsF (i + 1) (fun i => ck (K i)) (fun i => cn (K i) (N i)) (fun i => cs (K i) (S i)))
        rw [cellsF_succ]; exact hown2
      clear hown2 hgrow2 hat2 hlt4
      go_wp2
      go_roundw
      case rel => exact ⟨i + 1, by go_num, by omega, HO4, HB4⟩
      case measure => simp [intOf]; omega
    · obtain rfl : i = n := by omega
      go_wp2_with fail
      go_ret
      exact ⟨_, rfl, HO.out, HB.out⟩
set_option maxHeartbeats 1000000 in
theorem ksame (a : Option Addr) (n cap : Nat) (a' : Option Addr) (cap' : Nat) (K N : Nat → Int) (S : Nat → ByteArray) (w : World) (hA : LiesA w a n K N S) (hB : LiesA w a' n K N S) (hn : n ≤ 4398046511104) :
    Calls Try.prog 23 #[.slice a n cap, .slice a' n cap'] w fun e w' => e = .returned (.bool true) ∧ Below w.heap.size w w' := by
  by_cases h0 : n = 0
  · subst h0
    clear hA hB hn
    go_enter Try.func23, Try.ntmps23
    go_wp2
    refine wp_loop_rounds 1 ?_
    rw [rounds_succ]
    go_wp2
    go_ret
    exact ⟨rfl, Below.refl _ _⟩
  · rcases hA with hA | ⟨b, off, rfl, hA⟩
    · exact absurd hA h0
    · rcases hB with hB | ⟨b', off', rfl, hB⟩
      · exact absurd hB h0
      · have HA : Hid (Lies w b off n K N S) := hA
        have HB : Hid (Lies w b' off' n K N S) := hB
        clear hA hB h0
        go_enter Try.func23, Try.ntmps23
        go_wp2
        go_loopw [13] (fun x X => ∃ k : Nat, x = .int .i64 k ∧ k ≤ n ∧ Hid (Below w.heap.size w X)) (fun x _ => n - (intOf x).toNat)
        case atStart => exact ⟨0, rfl, Nat.zero_le _, Below.refl _ _⟩
        case round =>
          obtain ⟨k, rfl, hk, HC⟩ := hrel
          by_cases hlt : k < n
          · have ki : (0 : Int) ≤ (k : Int) := by omega
            have kn' : (k : Int) < (n : Int) := by omega
            obtain ⟨a0, a1, a2⟩ := (HA.out.below HC.out) k hlt
            obtain ⟨b0, b1, b2⟩ := (HB.out.below HC.out) k hlt
            go_wp2_with fail
            go_quiet (fail)
            go_wp2_with fail
            go_roundw
            case rel => exact ⟨k + 1, by go_num, by omega, below_drewN HC.out _⟩
            case measure => simp [intOf]; omega
          · go_wp2
            go_ret
            exact ⟨rfl, HC.out⟩
set_option maxHeartbeats 1000000 in
theorem vrowsA (a : Option Addr) (n cap : Nat) (a' : Option Addr) (m cap' : Nat) (K N : Nat → Int) (S : Nat → ByteArray) (K' N' : Nat → Int) (S' : Nat → ByteArray) (w : World) (hA : LiesA w a n K N S) (hB : LiesA w a' m K' N' S') (hn : n ≤ 4398046511104) (hm : m ≤ 4398046511104) :
    Calls Try.prog 21 #[.slice a n cap, .slice a' m cap'] w fun e w' => e = .returned (.int .i64 (ordL (fun i => ordV (K i) (N i) (S i) (K' i) (N' i) (S' i)) n m)) ∧ Below w.heap.size w w' := by
  by_cases h0 : n = 0 ∨ m = 0
  · have hO : ordL (fun i => ordV (K i) (N i) (S i) (K' i) (N' i) (S' i)) n m = cmpI n m := ordL_end (by rw [show min n m = 0 by omega]; rfl)
    rw [hO]
    clear hO hA hB
    rcases Nat.lt_or_ge m n with hnm | hnm
    all_goals
      go_enter Try.func21, Try.ntmps21
      go_wp2_with fail
      refine wp_loop_rounds 1 ?_
      rw [rounds_succ]
      go_wp2_with (go_at_call 48; refine (cmpInt _ _ _).mono ?_; rintro e w' ⟨rfl, rfl⟩)
      go_ret
      exact ⟨rfl, Below.refl _ _⟩
  · rcases hA with hA | ⟨b, off, rfl, hA⟩
    · omega
    · rcases hB with hB | ⟨b', off', rfl, hB⟩
      · omega
      · exact vrows b off n cap b' off' m cap' K N S K' N' S' w hA hB hn hm
end Go.Proofs.Ythimnpobcfkghaa
