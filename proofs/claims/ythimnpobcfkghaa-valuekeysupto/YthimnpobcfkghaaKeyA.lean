/- value.appendKeyText, value.appendKey, value.Key -/
import Derived.Test.YthimnpobcfkghaaKeyP
namespace Go.Proofs.Ythimnpobcfkghaa
open Go.RowKit Go.Lib
attribute [local go_sem ↓] Go.wp_at_zero Go.wp_at_succ
theorem valsB_u8 (l : List UInt8) (y : Nat) (hy : y < 256) : valsB l ++ [.int .u8 (y : Int)] = valsB (l ++ [UInt8.ofNat y]) := by
  rw [← valsB_one, show ((y : Int) % 256) = (y : Int) by omega]
theorem take_snocN (s : ByteArray) (k : Nat) (h : k < s.size) : (ll s).take (k + 1) = (ll s).take k ++ [UInt8.ofNat (bytN s k)] := by
  have h' : k < (ll s).length := by rw [ll_len]; exact h
  rw [List.take_succ_eq_append_getElem h', u8_of h']
theorem ofNat_0 {y : Nat} (hy : y < 256) : (UInt8.ofNat y = 0) ↔ y = 0 := by
  constructor
  · intro h
    have := congrArg UInt8.toNat h
    rw [UInt8.toNat_ofNat'] at this
    simp at this
    omega
  · intro h; rw [h]; rfl
theorem own_eqN {W : World} {base : Nat} {e : TypeId} {size : Nat} {v : Value} {n : Nat} {xs ys : List Value} (h : W.ownsRow base e size v n xs) (hx : xs = ys) : W.ownsRow base e size v n ys := hx ▸ h
theorem esc_row {X : World} {base : Nat} {u : Value} {n m : Nat} {xs E L F : List UInt8} (hE : F = E ++ L) (h : X.ownsRow base 5 1 u m (valsB (xs ++ E ++ L))) (hm : m = n + E.length + L.length := by first | rfl | (simp; omega)) : Hid (X.ownsRow base 5 1 u (n + F.length) (valsB (xs ++ F))) := by
  show X.ownsRow base 5 1 u (n + F.length) (valsB (xs ++ F))
  subst hE
  subst hm
  rw [List.length_append, ← List.append_assoc, ← Nat.add_assoc]
  exact h
set_option maxRecDepth 20000 in
set_option maxHeartbeats 1000000 in
theorem vappKT (base : Nat) (v : Value) (n : Nat) (xs : List UInt8) (s : ByteArray) (w : World) (ho : w.ownsRow base 5 1 v n (valsB xs)) (hbase : base ≤ w.heap.size) (hn : n + 2 * s.size ≤ 1099511627776) :
    Calls Try.prog 64 #[v, .string s] w fun e w' => ∃ v', e = .returned v' ∧ w'.ownsRow base 5 1 v' (n + ((esc (ll s)).length + 2)) (valsB (xs ++ (esc (ll s) ++ [0, 1]))) ∧ Below base w w' := by
  obtain ⟨i0, hi, hz0, hz1, hz2⟩ := info_parts infoB
  have HO : Hid (w.ownsRow base 5 1 v n (valsB xs)) := ho
  clear ho
  go_enter Try.func64, Try.ntmps64
  go_wp2_with fail
  go_loopw [0, 8] (fun u y X => ∃ i : Nat, y = .int .i64 i ∧ i ≤ s.size ∧ Hid (X.ownsRow base 5 1 u (n + (esc ((ll s).take i)).length) (valsB (xs ++ esc ((ll s).take i)))) ∧ Hid (Below base w X)) (fun _ y _ => s.size - (intOf y).toNat)
  case atStart => exact ⟨0, rfl, Nat.zero_le _, (by rw [List.take_zero, show esc [] = [] from rfl, List.append_nil]; exact HO.out : w.ownsRow base 5 1 v (n + (esc ((ll s).take 0)).length) (valsB (xs ++ esc ((ll s).take 0)))), Below.refl _ _⟩
  case round =>
    obtain ⟨i, rfl, hle, HO, HB⟩ := hrel
    have hel := esc_len ((ll s).take i)
    have htl : ((ll s).take i).length ≤ s.size := by rw [List.length_take, ll_len]; omega
    have hws := HB.out.size
    by_cases h0 : i < s.size
    · have k0 : (0 : Int) ≤ (i : Int) := by omega
      have k1 : (i : Int) < (s.size : Int) := by omega
      have gb := bytN_get h0
      have gl := bytN_lt s i
      have HE : Hid (esc ((ll s).take (i + 1)) = esc ((ll s).take i) ++ (if bytN s i = 0 then [0, 255] else [UInt8.ofNat (bytN s i)])) := by
        show esc ((ll s).take (i + 1)) = _
        rw [take_snocN s i h0, esc_app, esc_one]
        simp only [ofNat_0 gl]
      generalize hE : esc ((ll s).take i) = E at *
      by_cases hb : bytN s i = 0
      · rw [if_pos hb] at HE
        rw [hb] at gb
        go_wp2_with (at_builtin; go_must (refine wpList_append_lies _ rfl _ _ _ rfl base 5 i0 (.int .u8 0) 1 1 Try.underlying66 hi hz0 hz1 hz2 rfl (by decide) _ (n + E.length) _ rfl (World.ownsRow.alloc HO.out _) _ 1 1 [.int .u8 0] rfl rfl ?q1 ?q2 (by decide) ?q3 ?q4 ?q5 _ rfl ?_))
        case q1 => exact cell_one_new _ _ _
        case q2 => first | (intro u hu; simp at hu; rw [hu]; rfl) | (intro u hu; simp at hu; rcases hu with rfl | rfl <;> rfl) | rfl | simp
        case q3 => unfold maxLen; omega
        case q4 => omega
        case q5 => simp; omega
        intro g1 cap1 w1 hown1 hgrow1 hat1 hlt1
        have HB1 : Hid (Below base w w1) := below_app (HB.out.alloc (by omega) _) (World.ownsRow.alloc HO.out _) (by simp; omega) hgrow1
        have HO1 : Hid (w1.ownsRow base 5 1 (.slice (some ⟨g1, 0, none⟩) (n + E.length + 1) cap1) (n + E.length + 1) (valsB (xs ++ E ++ [0]))) := by
          have := hown1
          rw [show valsB (xs ++ E) ++ [.int .u8 0] = valsB (xs ++ E ++ [0]) by simp [valsB]] at this
          all_goals exact this
        have hzz1 := HB1.out.size
        clear hown1 hgrow1 hat1 hlt1
        go_wp2_with (at_builtin; go_must (refine wpList_append_lies _ rfl _ _ _ rfl base 5 i0 (.int .u8 0) 1 1 Try.underlying66 hi hz0 hz1 hz2 rfl (by decide) _ (n + E.length + 1) _ rfl (World.ownsRow.alloc HO1.out _) _ 1 1 [.int .u8 255] rfl rfl ?q1 ?q2 (by decide) ?q3 ?q4 ?q5 _ rfl ?_))
        case q1 => exact cell_one_new _ _ _
        case q2 => first | (intro u hu; simp at hu; rw [hu]; rfl) | (intro u hu; simp at hu; rcases hu with rfl | rfl <;> rfl) | rfl | simp
        case q3 => unfold maxLen; omega
        case q4 => omega
        case q5 => simp; omega
        intro g2 cap2 w2 hown2 hgrow2 hat2 hlt2
        have HB2 : Hid (Below base w w2) := below_app (HB1.out.alloc (by omega) _) (World.ownsRow.alloc HO1.out _) (by simp; omega) hgrow2
        have HO2 : Hid (w2.ownsRow base 5 1 (.slice (some ⟨g2, 0, none⟩) (n + E.length + 1 + 1) cap2) (n + E.length + 1 + 1) (valsB (xs ++ E ++ [0, 255]))) := by
          have := hown2
          refine own_eqN this ?_; simp [valsB]
          all_goals exact this
        have hzz2 := HB2.out.size
        clear hown2 hgrow2 hat2 hlt2
        go_wp2_with fail
        exact ⟨⟨i + 1, by go_num, by omega, esc_row HE.out HO2.out, HB2⟩, by simp [intOf]; omega⟩
      · rw [if_neg hb] at HE
        generalize bytN s i = b at *
        have hb' : ¬ ((b : Int) = 0) := by omega
        go_wp2_with (at_builtin; go_must (refine wpList_append_lies _ rfl _ _ _ rfl base 5 i0 (.int .u8 0) 1 1 Try.underlying66 hi hz0 hz1 hz2 rfl (by decide) _ (n + E.length) _ rfl (World.ownsRow.alloc HO.out _) _ 1 1 [.int .u8 (b : Int)] rfl rfl ?q1 ?q2 (by decide) ?q3 ?q4 ?q5 _ rfl ?_))
        case q1 => exact cell_one_new _ _ _
        case q2 => first | (intro u hu; simp at hu; rw [hu]; rfl) | (intro u hu; simp at hu; rcases hu with rfl | rfl <;> rfl) | rfl | simp
        case q3 => unfold maxLen; omega
        case q4 => omega
        case q5 => simp; omega
        intro g1 cap1 w1 hown1 hgrow1 hat1 hlt1
        have HB1 : Hid (Below base w w1) := below_app (HB.out.alloc (by omega) _) (World.ownsRow.alloc HO.out _) (by simp; omega) hgrow1
        have HO1 : Hid (w1.ownsRow base 5 1 (.slice (some ⟨g1, 0, none⟩) (n + E.length + 1) cap1) (n + E.length + 1) (valsB (xs ++ E ++ [UInt8.ofNat b]))) := by
          have := hown1
          rw [valsB_u8 _ _ gl] at this
          all_goals exact this
        have hzz1 := HB1.out.size
        clear hown1 hgrow1 hat1 hlt1
        go_wp2_with fail
        exact ⟨⟨i + 1, by go_num, by omega, esc_row HE.out HO1.out, HB1⟩, by simp [intOf]; omega⟩
    · obtain rfl : i = s.size := by omega
      have hT : (ll s).take s.size = ll s := List.take_of_length_le (by rw [ll_len]; omega)
      rw [hT] at HO hel
      rw [ll_len] at hel
      generalize hE : esc (ll s) = E at *
      go_wp2_with (at_builtin; go_must (refine wpList_append_lies _ rfl _ _ _ rfl base 5 i0 (.int .u8 0) 1 1 Try.underlying66 hi hz0 hz1 hz2 rfl (by decide) _ (n + E.length) _ rfl (World.ownsRow.alloc HO.out _) _ 2 2 [.int .u8 0, .int .u8 1] rfl rfl ?q1 ?q2 (by decide) ?q3 ?q4 ?q5 _ rfl ?_))
      case q1 => exact cells_two_new _ _ _ _
      case q2 => first | (intro u hu; simp at hu; rw [hu]; rfl) | (intro u hu; simp at hu; rcases hu with rfl | rfl <;> rfl) | rfl | simp
      case q3 => unfold maxLen; omega
      case q4 => omega
      case q5 => simp; omega
      intro g1 cap1 w1 hown1 hgrow1 hat1 hlt1
      have HB1 : Hid (Below base w w1) := below_app (HB.out.alloc (by omega) _) (World.ownsRow.alloc HO.out _) (by simp; omega) hgrow1
      have HO1 : Hid (w1.ownsRow base 5 1 (.slice (some ⟨g1, 0, none⟩) (n + E.length + 2) cap1) (n + E.length + 2) (valsB (xs ++ E ++ [0, 1]))) := by
        have := hown1
        rw [show valsB (xs ++ E) ++ [.int .u8 0, .int .u8 1] = valsB (xs ++ E ++ [0, 1]) by simp [valsB]] at this
        all_goals exact this
      have hzz1 := HB1.out.size
      clear hown1 hgrow1 hat1 hlt1
      go_wp2
      go_ret
      exact ⟨_, rfl, by rw [← Nat.add_assoc, ← List.append_assoc, hE]; exact HO1.out, HB1.out⟩
end Go.Proofs.Ythimnpobcfkghaa
