/- relstoreref.Key -/
import Derived.Test.YthimnpobcfkghaaKeyF
namespace Go.Proofs.Ythimnpobcfkghaa
open Go.RowKit Go.Lib
attribute [local go_sem ↓] Go.wp_at_zero Go.wp_at_succ
theorem mk_size (l : List UInt8) (u : List UInt8) : ((⟨l.toArray⟩ : ByteArray) ++ ⟨u.toArray⟩).size = l.length + u.length := by rw [app_mkN, size_mkN, List.length_append]
theorem ky_round {K N : Nat → Int} {S : Nat → ByteArray} {i : Nat} {x : ByteArray} (h : x = ⟨(kyL K N S i ++ kyV (K i) (N i) (S i)).toArray⟩) : x = ⟨(kyL K N S (i + 1)).toArray⟩ := h
theorem one_byte (t : ByteArray) (j : Nat) (h : j < t.size) : t.extract j (j + 1) = ⟨#[UInt8.ofNat (bytN t j)]⟩ := by
  have hl : j < (ll t).length := by rw [ll_len]; exact h
  apply ll_inj
  rw [ll_extract, List.drop_take, drop_cons hl, u8_of hl, show j + 1 - j = 1 by omega]
  rfl
theorem esc_snoc (t : ByteArray) (j : Nat) (h : j < t.size) : esc ((ll t).take (j + 1)) = esc ((ll t).take j) ++ (if bytN t j = 0 then [0, 255] else [UInt8.ofNat (bytN t j)]) := by
  rw [take_snocN t j h, esc_app, esc_one]
  simp only [ofNat_0 (bytN_lt t j)]
set_option maxRecDepth 20000 in
set_option maxHeartbeats 2000000 in
theorem rkey (a : Option Addr) (n cap : Nat) (K N : Nat → Int) (S : Nat → ByteArray) (w : World) (hA : LiesA w a n K N S) (hn : 9 * n + 2 * lenS S n ≤ 1000000000000) :
    Calls Try.prog 11 #[.slice a n cap] w fun e w' => e = .returned (.string ⟨(kyL K N S n).toArray⟩) ∧ Below w.heap.size w w' := by
  have HA : Hid (LiesA w a n K N S) := hA
  clear hA
  go_enter Try.func11, Try.ntmps11
  go_wp2_with fail
  go_loopw [3, 9] (fun v y X => ∃ i : Nat, y = .int .i64 i ∧ i ≤ n ∧ v = .string ⟨(kyL K N S i).toArray⟩ ∧ Hid (Below w.heap.size w X)) (fun _ y _ => n - (intOf y).toNat)
  case atStart => exact ⟨0, rfl, Nat.zero_le _, rfl, Below.refl _ _⟩
  case round =>
    obtain ⟨i, rfl, hi, rfl, HB⟩ := hrel
    by_cases hlt : i < n
    · have ki : (0 : Int) ≤ (i : Int) := by omega
      have kn : (i : Int) < (n : Int) := by omega
      obtain ⟨b, off, rfl, hl⟩ : ∃ b off, a = some ⟨b, off, none⟩ ∧ Lies wr b off n K N S := by
        rcases HA.out.below HB.out with h | h
        · omega
        · exact h
      obtain ⟨a0, a1, a2⟩ := hl i hlt
      have za := hl.lt (by omega)
      clear hl
      go_wp2_with fail
      refine (rclean _ _ _ _).mono ?_
      rintro e w1 ⟨rfl, hb1⟩
      obtain ⟨hc1, hf1⟩ := bcell hb1
      have p0 : w1.cell? ⟨wr.heap.size, 0, none⟩ = some (.int .i64 (K i)) := by rw [hc1 _ _ (by simp)]; go_simp
      have p1 : w1.cell? ⟨wr.heap.size, 1, none⟩ = some (.int .i64 (N i)) := by rw [hc1 _ _ (by simp)]; go_simp
      have p2 : w1.cell? ⟨wr.heap.size, 2, none⟩ = some (.string (S i)) := by rw [hc1 _ _ (by simp)]; go_simp
      have f0 : w1.frozen? ⟨wr.heap.size, 0, none⟩ = false := by rw [hf1 _ _ (by simp)]; go_simp
      have f1 : w1.frozen? ⟨wr.heap.size, 1, none⟩ = false := by rw [hf1 _ _ (by simp)]; go_simp
      have f2 : w1.frozen? ⟨wr.heap.size, 2, none⟩ = false := by rw [hf1 _ _ (by simp)]; go_simp
      have z1 : wr.heap.size + 1 ≤ w1.heap.size := by have := hb1.size; simpa using this
      have zb := HB.out.size
      have HB1 : Hid (Below w.heap.size w w1) := (HB.out.alloc zb _).trans (hb1.mono (by simp; omega))
      clear hc1 hf1 hb1 a0 a1 a2
      go_upto_region 6 with fail
      have hq := put3_at p0 p1 p2 (.int .i64 (ck (K i))) (.int .i64 (cn (K i) (N i))) (.string (cs (K i) (S i)))
      have hW := put3_below HB1.out zb (.int .i64 (ck (K i))) (.int .i64 (cn (K i) (N i))) (.string (cs (K i) (S i)))
      have hZ := put3_size w1 wr.heap.size (.int .i64 (ck (K i))) (.int .i64 (cn (K i) (N i))) (.string (cs (K i) (S i)))
      change Code.wp _ _ _ _ (put3 w1 wr.heap.size (.int .i64 (ck (K i))) (.int .i64 (cn (K i) (N i))) (.string (cs (K i) (S i))))
      generalize put3 w1 wr.heap.size (.int .i64 (ck (K i))) (.int .i64 (cn (K i) (N i))) (.string (cs (K i) (S i))) = W at *
      obtain ⟨q0, q1, q2⟩ := hq
      have HW : Hid _ := hW
      have zA : wr.heap.size < W.heap.size := by omega
      have zw : w.heap.size ≤ W.heap.size := by omega
      have hlen := kyL_len K N S i
      have hl1 := lenS_at S hlt
      have hL : (kyL K N S i).length ≤ 1000000000000 := by omega
      have hS : 2 * (S i).size ≤ 1000000000000 := by omega
      have hsz : (⟨(kyL K N S i).toArray⟩ : ByteArray).size = (kyL K N S i).length := size_mkN _
      have HR : Hid (∀ x : ByteArray, x = ⟨(kyL K N S i ++ kyV (K i) (N i) (S i)).toArray⟩ → x = ⟨(kyL K N S (i + 1)).toArray⟩) := fun _ h => ky_round h
      generalize kyL K N S i = L at *
      clear p0 p1 p2 f0 f1 f2 z1 hW hZ HB1 hlen hl1
      by_cases k1 : K i = 1
      · have e1 : ck (K i) = 1 := by rw [k1]; rfl
        obtain ⟨y, hy, hyv, e2⟩ : ∃ y : Nat, y ≤ 1 ∧ y = (if N i = 0 then 0 else 1) ∧ cn (K i) (N i) = (y : Int) := by
          refine ⟨if N i = 0 then 0 else 1, by split <;> omega, rfl, ?_⟩
          rw [k1, ← bn_nat]; rfl
        have hv : kyV (K i) (N i) (S i) = [UInt8.ofNat (2 + y)] := by rw [hyv, k1]; unfold kyV; rw [if_pos rfl]; split <;> rfl
        have HV : Hid _ := hv
        clear hv hyv
        rw [e1] at q0
        rw [e2] at q1
        have hcv := conv_one W W.heap.size rfl (2 + (y : Int)) (UInt8.ofNat (2 + y)) (by rw [UInt8.toNat_ofNat']; omega)
        generalize UInt8.ofNat (2 + y) = ub at *
        go_wp2_with fail
        go_roundw
        case rel => exact ⟨i + 1, by go_num, by omega, congrArg Value.string (HR.out _ (by rw [HV.out, mk_app1])), HW.out.alloc zw _⟩
        case measure => simp [intOf]; omega
      · by_cases k2 : K i = 2
        · have e1 : ck (K i) = 2 := by rw [k2]; rfl
          have e2 : cn (K i) (N i) = N i := by rw [k2]; rfl
          have hv : kyV (K i) (N i) (S i) = 4 :: beN ((N i + 9223372036854775808) % 18446744073709551616).toNat 8 := by rw [k2]; rfl
          have HE8 : Hid (IntKind.u64.wrap (IntKind.u64.wrap (N i) + 9223372036854775808) = (((N i + 9223372036854775808) % 18446744073709551616).toNat : Int)) := by
            show IntKind.u64.wrap (IntKind.u64.wrap (N i) + 9223372036854775808) = _
            rw [wrap_u64, wrap_u64]; omega
          have hm8 : ((N i + 9223372036854775808) % 18446744073709551616).toNat < 18446744073709551616 := by omega
          generalize ((N i + 9223372036854775808) % 18446744073709551616).toNat = m at *
          have HV : Hid _ := hv
          clear hv
          rw [e1] at q0
          rw [e2] at q1
          go_wp2_with fail
          rw [HE8.out]
          refine (rbytesN _ 8 _ (by decide) hm8).mono ?_
          rintro e w3 ⟨rfl, hb3⟩
          have hs8 : (⟨(beN m 8).toArray⟩ : ByteArray).size = 8 := by rw [size_mkN, beN_len]
          have hs9 : ((⟨#[4]⟩ : ByteArray) ++ ⟨(beN m 8).toArray⟩).size = 9 := by rw [show (⟨#[4]⟩ : ByteArray) = ⟨[4].toArray⟩ from rfl, mk_size, beN_len]; rfl
          have HW3 : Hid (Below w.heap.size w w3) := HW.out.trans (hb3.mono (by omega))
          clear hb3
          go_wp2_with fail
          go_roundw
          case rel => exact ⟨i + 1, by go_num, by omega, congrArg Value.string (HR.out _ (by rw [HV.out, show (⟨#[4]⟩ : ByteArray) = ⟨[4].toArray⟩ from rfl, app_mkN, app_mkN]; rfl)), HW3.out⟩
          case measure => simp [intOf]; omega
        · by_cases k3 : K i = 3
          · have e1 : ck (K i) = 3 := by rw [k3]; rfl
            have e3 : cs (K i) (S i) = S i := by rw [k3]; rfl
            have hv : kyV (K i) (N i) (S i) = 5 :: (esc (ll (S i)) ++ [0, 1]) := by rw [k3]; rfl
            have HV : Hid _ := hv
            clear hv
            rw [e1] at q0
            rw [e3] at q2
            go_wp2_with fail
            generalize S i = t at *
            go_loop [3, 6] (fun v y => ∃ j : Nat, y = .int .i64 j ∧ j ≤ t.size ∧ v = .string ⟨(L ++ [5] ++ esc ((ll t).take j)).toArray⟩) (fun _ y => t.size - (intOf y).toNat)
            case atStart => exact ⟨0, rfl, Nat.zero_le _, congrArg Value.string (by rw [mk_app1, List.take_zero]; show _ = (⟨((L ++ [5]) ++ []).toArray⟩ : ByteArray); rw [List.append_nil])⟩
            case round =>
              obtain ⟨j, rfl, hj, rfl⟩ := hrel
              have hel := esc_len ((ll t).take j)
              have htl : ((ll t).take j).length ≤ t.size := by rw [List.length_take, ll_len]; omega
              by_cases hjt : j < t.size
              · have m0 : (0 : Int) ≤ (j : Int) := by omega
                have m1 : (j : Int) < (t.size : Int) := by omega
                have m2 : (j : Int) + 1 ≤ (t.size : Int) := by omega
                have gb := bytN_get hjt
                have gl := bytN_lt t j
                have hob := one_byte t j hjt
                have hes := esc_snoc t j hjt
                have hM : (L ++ [5] ++ esc ((ll t).take j)).length ≤ 2000000000010 := by simp; omega
                have HJ : Hid (∀ x : ByteArray, x = ⟨(L ++ [5] ++ esc ((ll t).take j) ++ (if bytN t j = 0 then [0, 255] else [UInt8.ofNat (bytN t j)])).toArray⟩ → x = ⟨(L ++ [5] ++ esc ((ll t).take (j + 1))).toArray⟩) := fun x h => by rw [h, hes, ← List.append_assoc]
                clear hes hel htl
                generalize L ++ [5] ++ esc ((ll t).take j) = M at *
                have hsM : (⟨M.toArray⟩ : ByteArray).size = M.length := size_mkN _
                by_cases hb : bytN t j = 0
                · rw [if_pos hb] at HJ
                  rw [hb] at gb hob
                  have hs1 : ((⟨M.toArray⟩ : ByteArray) ++ ⟨#[UInt8.ofNat 0]⟩).size = M.length + 1 := by rw [mk_app1, size_mkN]; simp
                  go_wp2_with fail
                  go_round
                  case rel => exact ⟨j + 1, by go_num, by omega, congrArg Value.string (HJ.out _ (by rw [mk_app1, mk_app1]; simp))⟩
                  case measure => simp [intOf]; omega
                · rw [if_neg hb] at HJ
                  generalize bytN t j = b at *
                  have hb' : ¬ ((b : Int) = 0) := by omega
                  go_wp2_with fail
                  go_round
                  case rel => exact ⟨j + 1, by go_num, by omega, congrArg Value.string (HJ.out _ (by rw [mk_app1]))⟩
                  case measure => simp [intOf]; omega
              · obtain rfl : j = t.size := by omega
                have hT : (ll t).take t.size = ll t := List.take_of_length_le (by rw [ll_len]; omega)
                rw [hT] at hel ⊢
                rw [ll_len] at hel
                have hM : (L ++ [5] ++ esc (ll t)).length ≤ 2000000000010 := by simp; omega
                have HJ : Hid (∀ x : ByteArray, x = ⟨(L ++ [5] ++ esc (ll t) ++ [0, 1]).toArray⟩ → x = ⟨(kyL K N S (i + 1)).toArray⟩) := fun x h => HR.out _ (by rw [h, HV.out]; simp)
                clear hel htl hT
                generalize L ++ [5] ++ esc (ll t) = M at *
                have hsM : (⟨M.toArray⟩ : ByteArray).size = M.length := size_mkN _
                go_wp2_with fail
                go_roundw
                case rel => exact ⟨i + 1, by go_num, by omega, congrArg Value.string (HJ.out _ (by rw [show (⟨#[0, 1]⟩ : ByteArray) = ⟨[0, 1].toArray⟩ from rfl, app_mkN])), HW.out⟩
                case measure => simp [intOf]; omega
          · have e1 : ck (K i) = 0 := by simp [ck, k1, k2, k3]
            have hv : kyV (K i) (N i) (S i) = [1] := by simp [kyV, k1, k2, k3]
            have HV : Hid _ := hv
            clear hv
            rw [e1] at q0
            go_wp2_with fail
            go_roundw
            case rel => exact ⟨i + 1, by go_num, by omega, congrArg Value.string (HR.out _ (by rw [HV.out]; exact mk_app1 L 1)), HW.out⟩
            case measure => simp [intOf]; omega
    · obtain rfl : i = n := by omega
      go_wp2_with fail
      go_ret
      exact ⟨rfl, HB.out⟩
end Go.Proofs.Ythimnpobcfkghaa
