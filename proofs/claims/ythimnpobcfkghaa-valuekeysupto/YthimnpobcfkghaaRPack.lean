/- relstoreref.Pack -/
import Derived.Test.YthimnpobcfkghaaRByt
namespace Go.Proofs.Ythimnpobcfkghaa
open Go.RowKit Go.Lib
attribute [local go_sem ↓] Go.wp_at_zero Go.wp_at_succ
theorem conv_one (X : World) (A : Nat) (hA : X.heap.size = A) (z : Int) (u : UInt8) (hz : z = (u.toNat : Int)) : (convert 66 9 (.slice (some ⟨A, 0, none⟩) 1 1)).run Try.prog (X.alloc (.cells #[.int .u8 z] 5)) = .ok (.string ⟨#[u]⟩) (X.alloc (.cells #[.int .u8 z] 5)) := by
  subst hA
  have := run_convert_bytes_back (P := Try.prog) (X.alloc (.cells #[.int .u8 z] 5)) 66 9 5 ⟨X.heap.size, 0, none⟩ 1 [u] Try.underlying66 Try.underlying5 Try.underlying9 (fun j hj => by
    have : j = 0 := by simpa using hj
    subst this
    rw [Addr.add_lit, hz]
    simp only [World.cell?, World.alloc_heap_new]
    simp)
  exact this
theorem fit_or (K : Nat → Int) (S : Nat → ByteArray) (n i : Nat) (hi : i < n) (h : ¬ (cs (K i) (S i)).size ≤ 1000) : ¬ fit K S n := fun hf => h (hf i hi)
theorem pa_no {K N : Nat → Int} {S : Nat → ByteArray} {n : Nat} (h : ¬ fit K S n) : paS K N S n = ⟨#[]⟩ ∧ paE K S n = 8 := by
  unfold paS paE
  rw [if_neg (fun x => h x.2), if_neg (fun x => h x.2)]
  exact ⟨rfl, rfl⟩
theorem mk_app1 (l : List UInt8) (u : UInt8) : (⟨l.toArray⟩ : ByteArray) ++ ⟨#[u]⟩ = ⟨(l ++ [u]).toArray⟩ := app_mkN l [u]
theorem mk_appS (l : List UInt8) (s : ByteArray) : (⟨l.toArray⟩ : ByteArray) ++ s = ⟨(l ++ s.data.toList).toArray⟩ := by
  have := app_mkN l s.data.toList
  exact this
/- one round's string -/
theorem rp_round {n : Nat} {K N : Nat → Int} {S : Nat → ByteArray} {i : Nat} {x : ByteArray} (h : x = ⟨((UInt8.ofNat n :: pkL K N S i) ++ pkV (K i) (N i) (S i)).toArray⟩) : x = ⟨(UInt8.ofNat n :: pkL K N S (i + 1)).toArray⟩ := h
set_option maxRecDepth 20000 in
set_option maxHeartbeats 400000 in
theorem rpack (a : Option Addr) (n cap : Nat) (K N : Nat → Int) (S : Nat → ByteArray) (w : World) (hA : LiesA w a n K N S) (hn : n ≤ 4398046511104) (hN : ∀ i, i < n → -9223372036854775808 ≤ N i ∧ N i ≤ 9223372036854775807) :
    Calls Try.prog 17 #[.slice a n cap] w fun e w' => e = .returned (.tuple #[.string (paS K N S n), .int .i64 (paE K S n)]) ∧ Below w.heap.size w w' := by
  have HA : Hid (LiesA w a n K N S) := hA
  have HN : Hid (∀ i, i < n → -9223372036854775808 ≤ N i ∧ N i ≤ 9223372036854775807) := hN
  clear hA hN
  have hcv := one_textN w n
  go_enter Try.func17, Try.ntmps17
  go_wp2_with fail
  clear hcv
  go_loopw [4, 14] (fun v y X => ∃ i : Nat, y = .int .i64 i ∧ i ≤ n ∧ Hid (fit K S i) ∧ v = .string ⟨(UInt8.ofNat n :: pkL K N S i).toArray⟩ ∧ Hid (Below w.heap.size w X)) (fun _ y _ => n - (intOf y).toNat)
  case atStart => exact ⟨0, rfl, Nat.zero_le _, (fun i hi => absurd hi (by omega) : fit K S 0), rfl, ((Below.refl _ _).alloc (Nat.le_refl _) _)⟩
  case round =>
    obtain ⟨i, rfl, hi, HF, rfl, HB⟩ := hrel
    by_cases hlt : i < n
    · have ki : (0 : Int) ≤ (i : Int) := by omega
      have kn : (i : Int) < (n : Int) := by omega
      obtain ⟨b, off, rfl, hl⟩ : ∃ b off, a = some ⟨b, off, none⟩ ∧ Lies wr b off n K N S := by
        rcases HA.out.below HB.out with h | h
        · omega
        · exact h
      obtain ⟨a0, a1, a2⟩ := hl i hlt
      have za := hl.lt (by omega)
      clear hl
      go_wp2_with fail
      refine (rclean _ _ _ _).mono ?_
      rintro e w1 ⟨rfl, hb1⟩
      obtain ⟨hc1, hf1⟩ := bcell hb1
      have p0 : w1.cell? ⟨wr.heap.size, 0, none⟩ = some (.int .i64 (K i)) := by rw [hc1 _ _ (by simp)]; go_simp
      have p1 : w1.cell? ⟨wr.heap.size, 1, none⟩ = some (.int .i64 (N i)) := by rw [hc1 _ _ (by simp)]; go_simp
      have p2 : w1.cell? ⟨wr.heap.size, 2, none⟩ = some (.string (S i)) := by rw [hc1 _ _ (by simp)]; go_simp
      have f0 : w1.frozen? ⟨wr.heap.size, 0, none⟩ = false := by rw [hf1 _ _ (by simp)]; go_simp
      have f1 : w1.frozen? ⟨wr.heap.size, 1, none⟩ = false := by rw [hf1 _ _ (by simp)]; go_simp
      have f2 : w1.frozen? ⟨wr.heap.size, 2, none⟩ = false := by rw [hf1 _ _ (by simp)]; go_simp
      have z1 : wr.heap.size + 1 ≤ w1.heap.size := by have := hb1.size; simpa using this
      have zb := HB.out.size
      have HB1 : Hid (Below w.heap.size w w1) := (HB.out.alloc zb _).trans (hb1.mono (by simp; omega))
      clear hc1 hf1 hb1 a0 a1 a2
      go_upto_region 6 with fail
      have hq := put3_at p0 p1 p2 (.int .i64 (ck (K i))) (.int .i64 (cn (K i) (N i))) (.string (cs (K i) (S i)))
      have hW := put3_below HB1.out zb (.int .i64 (ck (K i))) (.int .i64 (cn (K i) (N i))) (.string (cs (K i) (S i)))
      have hZ := put3_size w1 wr.heap.size (.int .i64 (ck (K i))) (.int .i64 (cn (K i) (N i))) (.string (cs (K i) (S i)))
      change Code.wp _ _ _ _ (put3 w1 wr.heap.size (.int .i64 (ck (K i))) (.int .i64 (cn (K i) (N i))) (.string (cs (K i) (S i))))
      generalize put3 w1 wr.heap.size (.int .i64 (ck (K i))) (.int .i64 (cn (K i) (N i))) (.string (cs (K i) (S i))) = W at *
      obtain ⟨q0, q1, q2⟩ := hq
      have HW : Hid _ := hW
      have zA : wr.heap.size < W.heap.size := by omega
      have zw : w.heap.size ≤ W.heap.size := by omega
      have hlen := pkL_len (N := N) HF.out
      have hL : (UInt8.ofNat n :: pkL K N S i).length ≤ 4411240650637313 := by simp only [List.length_cons]; omega
      have hsz : (⟨(UInt8.ofNat n :: pkL K N S i).toArray⟩ : ByteArray).size = (UInt8.ofNat n :: pkL K N S i).length := size_mkN _
      have HR : Hid (∀ x : ByteArray, x = ⟨((UInt8.ofNat n :: pkL K N S i) ++ pkV (K i) (N i) (S i)).toArray⟩ → x = ⟨(UInt8.ofNat n :: pkL K N S (i + 1)).toArray⟩) := fun _ h => rp_round h
      generalize UInt8.ofNat n :: pkL K N S i = L at *
      have HF2 : Hid ((cs (K i) (S i)).size ≤ 1000 → fit K S (i + 1)) := fun hfit j hj => by
        by_cases h : j = i
        · subst h; exact hfit
        · exact HF.out j (by omega)
      clear p0 p1 p2 f0 f1 f2 z1 hW hZ HB1 hlen
      by_cases k1 : K i = 1
      · have e1 : ck (K i) = 1 := by rw [k1]; rfl
        obtain ⟨y, hy, hyv, e2⟩ : ∃ y : Nat, y ≤ 1 ∧ y = (if N i = 0 then 0 else 1) ∧ cn (K i) (N i) = (y : Int) := by
          refine ⟨if N i = 0 then 0 else 1, by split <;> omega, rfl, ?_⟩
          rw [k1, ← bn_nat]; rfl
        have e3 : cs (K i) (S i) = ⟨#[]⟩ := by rw [k1]; rfl
        have hv : pkV (K i) (N i) (S i) = [1, UInt8.ofNat y] := by rw [hyv, k1]; rfl
        have HV : Hid _ := hv
        clear hv hyv
        rw [e1] at q0
        rw [e2] at q1
        have hcv := conv_one W W.heap.size rfl 1 1 rfl
        have hcv2 := conv_one (W.alloc (.cells #[.int .u8 1] 5)) (W.heap.size + 1) (by simp) (y : Int) (UInt8.ofNat y) (by rw [UInt8.toNat_ofNat']; omega)
        have hs2 : ((⟨L.toArray⟩ : ByteArray) ++ ⟨#[1]⟩).size = L.length + 1 := by rw [mk_app1, size_mkN]; simp
        go_wp2_with fail
        go_roundw
        case rel => exact ⟨i + 1, by go_num, by omega, HF2.out (by rw [e3]; decide), congrArg Value.string (HR.out _ (by rw [HV.out, mk_app1, mk_app1]; simp)), (HW.out.alloc zw _).alloc (by simp; omega) _⟩
        case measure => simp [intOf]; omega
      · by_cases k2 : K i = 2
        · have e1 : ck (K i) = 2 := by rw [k2]; rfl
          have e2 : cn (K i) (N i) = N i := by rw [k2]; rfl
          have e3 : cs (K i) (S i) = ⟨#[]⟩ := by rw [k2]; rfl
          have hv : pkV (K i) (N i) (S i) = 2 :: beN (N i % 18446744073709551616).toNat 8 := by rw [k2]; rfl
          have HV : Hid _ := hv
          have HE8 : Hid (IntKind.u64.wrap (N i) = ((N i % 18446744073709551616).toNat : Int)) := by
            show IntKind.u64.wrap (N i) = _
            rw [wrap_u64]; omega
          have hm8 : (N i % 18446744073709551616).toNat < 18446744073709551616 := by omega
          obtain ⟨n1, n2⟩ := HN.out i hlt
          clear hv
          rw [e1] at q0
          rw [e2] at q1
          have hcv := conv_one W W.heap.size rfl 2 2 rfl
          have hs2 : ((⟨L.toArray⟩ : ByteArray) ++ ⟨#[2]⟩).size = L.length + 1 := by rw [mk_app1, size_mkN]; simp
          go_wp2_with fail
          rw [HE8.out]
          refine (rbytesN _ 8 _ (by decide) hm8).mono ?_
          rintro e w3 ⟨rfl, hb3⟩
          have hs8 : (⟨(beN (N i % 18446744073709551616).toNat 8).toArray⟩ : ByteArray).size = 8 := by rw [size_mkN, beN_len]
          have HW3 : Hid (Below w.heap.size w w3) := (HW.out.alloc zw _).trans (hb3.mono (by simp; omega))
          clear hb3
          go_wp2_with fail
          go_roundw
          case rel => exact ⟨i + 1, by go_num, by omega, HF2.out (by rw [e3]; decide), congrArg Value.string (HR.out _ (by rw [HV.out, mk_app1, app_mkN]; simp)), HW3.out⟩
          case measure => simp [intOf]; omega
        · by_cases k3 : K i = 3
          · have e1 : ck (K i) = 3 := by rw [k3]; rfl
            have e3 : cs (K i) (S i) = S i := by rw [k3]; rfl
            have hv : pkV (K i) (N i) (S i) = 3 :: UInt8.ofNat ((S i).size / 256) :: UInt8.ofNat (S i).size :: (S i).data.toList := by rw [k3]; rfl
            have HV : Hid _ := hv
            clear hv
            rw [e1] at q0
            rw [e3] at q2
            have hcv := conv_one W W.heap.size rfl 3 3 rfl
            have hs2 : ((⟨L.toArray⟩ : ByteArray) ++ ⟨#[3]⟩).size = L.length + 1 := by rw [mk_app1, size_mkN]; simp
            by_cases hfit : (S i).size ≤ 1000
            · have hf : ¬ ((1000 : Int) < ((S i).size : Int)) := by omega
              go_upto_region 15 with fail
              have zV : wr.heap.size < (W.alloc (.cells #[.int .u8 3] 5)).heap.size := by simp; omega
              have v2 : (W.alloc (.cells #[.int .u8 3] 5)).cell? ⟨wr.heap.size, 2, none⟩ = some (.string (S i)) := by go_simp
              have HV1 : Hid (Below w.heap.size w (W.alloc (.cells #[.int .u8 3] 5))) := HW.out.alloc zw _
              clear hcv q0 q1 q2 zA zw za HW
              generalize W.alloc (.cells #[.int .u8 3] 5) = W2 at *
              have HU : Hid (IntKind.u64.wrap ((S i).size : Int) = ((S i).size : Int)) := by
                show IntKind.u64.wrap ((S i).size : Int) = ((S i).size : Int)
                rw [wrap_u64]; omega
              have HU2 : Hid ((S i).size < 18446744073709551616) := (by omega : (S i).size < 18446744073709551616)
              have hs3 : (⟨(beN (S i).size 2).toArray⟩ : ByteArray).size = 2 := by rw [size_mkN, beN_len]
              have hs4 : ((⟨(beN (S i).size 2).toArray⟩ : ByteArray) ++ S i).size = 2 + (S i).size := by rw [ByteArray.size_append, hs3]
              have HS : Hid (((⟨L.toArray⟩ : ByteArray) ++ ⟨#[3]⟩) ++ ((⟨(beN (S i).size 2).toArray⟩ : ByteArray) ++ S i) = ⟨(L ++ pkV (K i) (N i) (S i)).toArray⟩) := by
                show ((⟨L.toArray⟩ : ByteArray) ++ ⟨#[3]⟩) ++ ((⟨(beN (S i).size 2).toArray⟩ : ByteArray) ++ S i) = ⟨(L ++ pkV (K i) (N i) (S i)).toArray⟩
                rw [HV.out, mk_app1, mk_appS, app_mkN]
                exact congrArg (fun l : List UInt8 => (⟨l.toArray⟩ : ByteArray)) (by show (L ++ [3]) ++ (([] ++ [UInt8.ofNat ((S i).size / 256)] ++ [UInt8.ofNat (S i).size]) ++ (S i).data.toList) = _; simp)
              have h8 : (2 : Int) + ((S i).size : Int) ≤ 9223372036854775807 := by omega
              have h8' : ¬ (9223372036854775807 : Int) < 2 + ((S i).size : Int) := by omega
              have h9 : (L.length : Int) + 1 + (2 + ((S i).size : Int)) ≤ 9223372036854775807 := by omega
              have h9' : ¬ (9223372036854775807 : Int) < (L.length : Int) + 1 + (2 + ((S i).size : Int)) := by omega
              go_region_with (go_at_call 43; rw [HU.out]; refine (rbytesN (S i).size 2 _ (by decide) HU2.out).mono ?_; rintro e w' ⟨rfl, hb⟩; have v3 : w'.cell? ⟨wr.heap.size, 2, none⟩ = some (.string (S i)) := keepCell hb zV v2; have HX : Hid (Below w.heap.size w w') := keepBelow HV1.out.drew hb)
              all_goals
                go_wp2_with fail
                exact ⟨⟨i + 1, by go_num, by omega, HF2.out (by rw [e3]; exact hfit), congrArg Value.string (HR.out _ HS.out), HX.out⟩, by simp [intOf]; omega⟩
            · have hf : ((1000 : Int) < ((S i).size : Int)) := by omega
              have HX := pa_no (N := N) (fit_or K S n i hlt (by rw [e3]; exact hfit))
              have H1 : Hid _ := HX.1
              have H2 : Hid _ := HX.2
              clear HX
              go_wp2_with fail
              refine bodyPost_ret (v := .tuple #[.string ⟨#[]⟩, .int .i64 8]) (by simp [results, Try.results17, go_sem, *]) rfl ⟨?_, HW.out.alloc zw _⟩
              rw [H1.out, H2.out]
          · have e1 : ck (K i) = 0 := by simp [ck, k1, k2, k3]
            have e3 : cs (K i) (S i) = ⟨#[]⟩ := by simp [cs, k3]
            have hv : pkV (K i) (N i) (S i) = [0] := by simp [pkV, k1, k2, k3]
            have HV : Hid _ := hv
            clear hv
            rw [e1] at q0
            have hcv := conv_one W W.heap.size rfl 0 0 rfl
            go_wp2_with fail
            go_roundw
            case rel => exact ⟨i + 1, by go_num, by omega, HF2.out (by rw [e3]; decide), congrArg Value.string (HR.out _ (by rw [HV.out]; exact mk_app1 L 0)), HW.out.alloc zw _⟩
            case measure => simp [intOf]; omega
    · obtain rfl : i = n := by omega
      by_cases h64 : i ≤ 64
      · have h64' : ¬ ((64 : Int) < (i : Int)) := by omega
        go_wp2_with fail
        refine bodyPost_ret (v := .tuple #[.string ⟨(UInt8.ofNat i :: pkL K N S i).toArray⟩, .int .i64 0]) (by simp [results, Try.results17, go_sem, *]) rfl ⟨?_, HB.out⟩
        unfold paS paE
        rw [if_pos ⟨h64, HF.out⟩, if_pos ⟨h64, HF.out⟩]
      · have h64' : (64 : Int) < (i : Int) := by omega
        go_wp2_with fail
        refine bodyPost_ret (v := .tuple #[.string ⟨#[]⟩, .int .i64 8]) (by simp [results, Try.results17, go_sem, *]) rfl ⟨?_, HB.out⟩
        unfold paS paE
        rw [if_neg (fun h => h64 h.1), if_neg (fun h => h64 h.1)]
end Go.Proofs.Ythimnpobcfkghaa
