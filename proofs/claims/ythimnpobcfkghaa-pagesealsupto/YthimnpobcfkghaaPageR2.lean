/- The contract of relstoreref.Seal. -/
import Derived.Test.YthimnpobcfkghaaPageR2a
namespace Go.Proofs.Ythimnpobcfkghaa
open Go.RowKit
attribute [local go_sem ↓] Go.wp_at_zero Go.wp_at_succ

set_option maxHeartbeats 600000 in
theorem cin (x lo hi : Int) (w : World) : Calls Try.prog 55 #[.int .i64 x, .int .i64 lo, .int .i64 hi] w fun e w' => e = .returned (.bool (decide (lo ≤ x) && decide (x ≤ hi))) ∧ w' = w := by
  by_cases h : lo ≤ x
  · have HE : Hid ((decide (lo ≤ x) && decide (x ≤ hi)) = decide (x ≤ hi)) := by
      show (decide (lo ≤ x) && decide (x ≤ hi)) = decide (x ≤ hi)
      rw [decide_eq_true h]; rfl
    go_enter Try.func55, Try.ntmps55
    go_wp2
    go_ret
    exact ⟨by rw [HE.out]; rfl, rfl⟩
  · have HE : Hid ((decide (lo ≤ x) && decide (x ≤ hi)) = false) := by
      show (decide (lo ≤ x) && decide (x ≤ hi)) = false
      rw [decide_eq_false h]; rfl
    have h' : x < lo := by omega
    go_enter Try.func55, Try.ntmps55
    go_wp2
    go_ret
    exact ⟨by rw [HE.out]; rfl, rfl⟩

theorem zero_text (W : World) (F : Nat) (hF : F ≤ 4096) : ∃ W', (Instr.makeSlice 66 (.int .i64 (F : Int)) (.int .i64 (F : Int))).run Try.prog W = .ok (.slice (some ⟨W.heap.size, 0, none⟩) F F) W' ∧ (convert 66 9 (.slice (some ⟨W.heap.size, 0, none⟩) F F)).run Try.prog W' = .ok (.string ⟨(List.replicate F 0).toArray⟩) W' ∧ Below W.heap.size W W' := by
  have hI : (Try.prog.info? 5).map (fun i => (i.zero, i.size, i.bytes)) = some (some (.int .u8 0), 1, 1) := by kernel_rfl
  obtain ⟨i0, hi, hz0, hz1, hz2⟩ := info_parts hI
  have hm := run_make (P := Try.prog) W 66 5 i0 (.int .u8 0) Try.underlying66 hi hz0 .i64 .i64 (F : Int) (F : Int) (by omega) (by omega) (by rw [hz2]; omega) (by omega)
  rw [hz1] at hm
  simp only [Int.toNat_natCast, Nat.mul_one] at hm
  refine ⟨_, hm, ?_, (Below.refl _ _).alloc (Nat.le_refl _) _⟩
  have := run_convert_bytes_back (P := Try.prog) (W.alloc (.cells (madeCells (Value.int IntKind.u8 0).cells F) 5)) 66 9 5 ⟨W.heap.size, 0, none⟩ F (List.replicate F 0) Try.underlying66 Try.underlying5 Try.underlying9 (fun j hj => by
    have hj' : j < F := by simpa using hj
    rw [Addr.add_lit, Nat.zero_add]
    simp only [World.cell?, World.alloc_heap_new]
    have e : (madeCells (Value.int IntKind.u8 0).cells F).toList = List.replicate F (.int .u8 0) := toList_madeCells_one _ _
    rw [← Array.getElem?_toList, e, List.getElem?_replicate, if_pos hj']
    simp)
  rw [List.length_replicate] at this
  exact this

set_option maxRecDepth 20000 in
set_option maxHeartbeats 1000000 in
theorem rseal_ok (K Lk : Nat) (a : Option Addr) (n cap : Nat) (S : Nat → ByteArray) (w : World) (h : StA w a n S) (hK : 1 ≤ K ∧ K ≤ 5) (hL : Lk ≤ 2147483647) (hn : 4 * n + len S n ≤ 1012) :
    Calls Try.prog 29 #[.agg #[.int .i64 K, .int .i64 Lk, .slice a n cap]] w fun e w' => e = .returned (.tuple #[.string ⟨(sealed K Lk n S).toArray⟩, .int .i64 0]) ∧ Below w.heap.size w w' := by
  have HS : Hid (∀ W, Below w.heap.size w W → StA W a n S) := fun W hb => h.below hb
  clear h
  go_enter Try.func29, Try.ntmps29
  go_wp2_with fail
  refine (cin _ _ _ _).mono ?_
  rintro e w1 ⟨rfl, rfl⟩
  have k1 : (decide ((1 : Int) ≤ K) && decide ((K : Int) ≤ 5)) = true := by simp; omega
  rw [k1]
  clear k1
  go_wp2_with fail
  refine (cin _ _ _ _).mono ?_
  rintro e w1 ⟨rfl, rfl⟩
  have k2 : (decide ((0 : Int) ≤ Lk) && decide ((Lk : Int) ≤ 2147483647)) = true := by simp; omega
  rw [k2]
  clear k2
  go_wp2_with fail
  have HSv : Hid (StA (w.alloc (.cells #[.int .i64 K, .int .i64 Lk, .slice a n cap] 45)) a n S) := HS.out _ ((Below.refl _ _).alloc (Nat.le_refl _) _)
  have v2 : (w.alloc (.cells #[.int .i64 K, .int .i64 Lk, .slice a n cap] 45)).cell? ⟨w.heap.size, 2, none⟩ = some (.slice a n cap) := (Bx3.new w _ _ _).c2
  have v1 : (w.alloc (.cells #[.int .i64 K, .int .i64 Lk, .slice a n cap] 45)).cell? ⟨w.heap.size, 1, none⟩ = some (.int .i64 Lk) := (Bx3.new w _ _ _).c1
  have v0 : (w.alloc (.cells #[.int .i64 K, .int .i64 Lk, .slice a n cap] 45)).cell? ⟨w.heap.size, 0, none⟩ = some (.int .i64 K) := (Bx3.new w _ _ _).c0
  have zV : w.heap.size < (w.alloc (.cells #[.int .i64 K, .int .i64 Lk, .slice a n cap] 45)).heap.size := by simp
  have HBv : Hid (Below w.heap.size w (w.alloc (.cells #[.int .i64 K, .int .i64 Lk, .slice a n cap] 45))) := ((Below.refl _ _).alloc (Nat.le_refl _) _)
  generalize w.alloc (.cells #[.int .i64 K, .int .i64 Lk, .slice a n cap] 45) = V at *
  go_loop [4, 25] (fun x y => ∃ k : Nat, y = .int .i64 k ∧ x = .int .i64 (1012 - (4 * (k : Int) + (len S k : Nat))) ∧ k ≤ n) (fun _ y => n - (intOf y).toNat)
  case atStart => exact ⟨0, rfl, by simp [len], Nat.zero_le _⟩
  case round =>
    obtain ⟨k, rfl, rfl, hk⟩ := hrel
    by_cases h0 : k < n
    · obtain ⟨b, off, rfl, hlt, hcells⟩ : ∃ b off, a = some ⟨b, off, none⟩ ∧ b < V.heap.size ∧ ∀ j, j < n → V.cell? ⟨b, off + j, none⟩ = some (.string (S j)) := by
        rcases HSv.out with h | h
        · omega
        · exact h
      have c0 := hcells k h0
      have h1 : (k : Int) < (n : Int) := by omega
      have h2 := len_mono S (show k + 1 ≤ n by omega)
      have h3 : len S (k + 1) = len S k + (S k).size := rfl
      have HE : Hid (1012 - (4 * (k : Int) + ((len S k : Nat) : Int)) - (4 + ((S k).size : Int)) = 1012 - (4 * ((k + 1 : Nat) : Int) + ((len S (k + 1) : Nat) : Int))) := by
        show 1012 - (4 * (k : Int) + ((len S k : Nat) : Int)) - (4 + ((S k).size : Int)) = 1012 - (4 * ((k + 1 : Nat) : Int) + ((len S (k + 1) : Nat) : Int))
        rw [h3]; omega
      clear hcells
      go_wp2
      go_round
      case rel => exact ⟨k + 1, by go_num, congrArg (Value.int IntKind.i64) HE.out, by omega⟩
      case measure => simp [intOf]; omega
    · obtain rfl : k = n := by omega
      have f0 : ¬ (1012 - (4 * (k : Int) + ((len S k : Nat) : Int)) < 0) := by omega
      go_wp2_with fail
      refine regH w.heap.size K Lk a k cap (by omega) (by omega) (by omega) zV v0 v1 v2 ?_ rfl rfl (by kernel_rfl) (by kernel_rfl) (by kernel_rfl) (by kernel_rfl) (by kernel_rfl) (by kernel_rfl) (by kernel_rfl) (by kernel_rfl) (by kernel_rfl) (by kernel_rfl) (by kernel_rfl) (by kernel_rfl) (by kernel_rfl) (by kernel_rfl) (by kernel_rfl) (by kernel_rfl) ?_
      · simp
      intro u37 u38 u39 u40 u41 u42 u43 u44 u45 u46 u47 u48 u49 u50 u51 u52 X hBX
      have HSx : Hid (∀ W, Below X.heap.size X W → StA W a k S) := fun W hb => (HSv.out.below hBX).below hb
      have x2 := keepCell hBX zV v2
      have zX := keepSize hBX zV
      have HBx : Hid (Below w.heap.size w X) := keepBelow HBv.out hBX
      have HHd : Hid (hd0 K ++ bb k 2 ++ bb Lk 4 = (⟨(headL K Lk k S 0).toArray⟩ : ByteArray)) := by
        show (⟨[UInt8.ofNat K, 0].toArray⟩ : ByteArray) ++ ⟨(be k 2).toArray⟩ ++ ⟨(be Lk 4).toArray⟩ = _
        rw [app_mk, app_mk]
        rfl
      clear HSv hBX v0 v1 v2 zV HBv
      simp only [sets, List.setIfInBounds_toArray, List.set_cons_zero, List.set_cons_succ]
      rw [HHd.out]
      go_wp2_with fail
      go_loopw [7, 8, 56] (fun x z y Y => ∃ j : Nat, y = .int .i64 j ∧ x = .string ⟨(headL K Lk k S j).toArray⟩ ∧ z = .string ⟨(bodyL S j).toArray⟩ ∧ j ≤ k ∧ Hid (Below X.heap.size X Y)) (fun _ _ y _ => k - (intOf y).toNat)
      case atStart => exact ⟨0, rfl, rfl, rfl, Nat.zero_le _, Below.refl _ _⟩
      case round =>
        obtain ⟨j, rfl, rfl, rfl, hj, HBj⟩ := hrel
        by_cases h0 : j < k
        · obtain ⟨b, off, rfl, hlt, hcells⟩ : ∃ b off, a = some ⟨b, off, none⟩ ∧ b < wr.heap.size ∧ ∀ j, j < k → wr.cell? ⟨b, off + j, none⟩ = some (.string (S j)) := by
            rcases HSx.out _ HBj.out with h | h
            · omega
            · exact h
          have c0 := hcells j h0
          have h1 : (j : Int) < (k : Int) := by omega
          have h2 := len_mono S (show j + 1 ≤ k by omega)
          have h3 : len S (j + 1) = len S j + (S j).size := rfl
          have s1 : (S j).size ≤ 1012 := by omega
          have l1 : (bodyL S j).length ≤ 1024 := by rw [bodyL_len]; omega
          have l2 : (headL K Lk k S j).length ≤ 1024 := by rw [headL_len]; omega
          clear hcells
          go_wp2_with fail
          refine (rbytes (S j).size 2 _ (by omega) (by omega)).mono ?_
          rintro e Y1 ⟨rfl, hb1⟩
          have HB1 : Hid (Below X.heap.size X Y1) := keepBelow HBj.out hb1
          have l3 := be_len (S j).size 2
          clear hb1 c0
          have a0 : 2 * (j + 1) + len S (j + 1) ≤ 1012 := by omega
          have HW : Hid (IntKind.u64.wrap (1024 - (2 + ((S j).size : Int) + ((bodyL S j).length : Int))) = ((at' S (j + 1) : Nat) : Int)) := by
            show IntKind.u64.wrap (1024 - (2 + ((S j).size : Int) + ((bodyL S j).length : Int))) = ((at' S (j + 1) : Nat) : Int)
            rw [bodyL_len]
            unfold at'
            simp only [IntKind.wrap, IntKind.bits, IntKind.signed]
            simp
            omega
          have HT : Hid ((⟨(be (S j).size 2).toArray⟩ : ByteArray) ++ S j ++ ⟨(bodyL S j).toArray⟩ = ⟨(bodyL S (j + 1)).toArray⟩) := by
            show (⟨(be (S j).size 2).toArray⟩ : ByteArray) ++ S j ++ ⟨(bodyL S j).toArray⟩ = ⟨(bodyL S (j + 1)).toArray⟩
            have e : S j = ⟨(S j).data.toList.toArray⟩ := by cases S j; simp
            conv => lhs; rw [e]
            rw [app_mk, app_mk]
            rfl
          go_wp2_with fail
          rw [HW.out, HT.out]
          have a1 : at' S (j + 1) ≤ 1024 := by unfold at'; omega
          refine (rbytes (at' S (j + 1)) 2 _ (by omega) (by omega)).mono ?_
          rintro e Y2 ⟨rfl, hb2⟩
          have HB2 : Hid (Below X.heap.size X Y2) := keepBelow HB1.out hb2
          have l4 := be_len (at' S (j + 1)) 2
          clear hb2
          go_wp2
          go_roundw
          case rel => exact ⟨j + 1, by go_num, congrArg Value.string (app_mk _ _), rfl, by omega, HB2⟩
          case measure => simp [intOf]; omega
        · obtain rfl : j = k := by omega
          have HF : Hid (1012 - (4 * (j : Int) + ((len S j : Nat) : Int)) = ((1012 - (4 * j + len S j) : Nat) : Int)) := by
            show 1012 - (4 * (j : Int) + ((len S j : Nat) : Int)) = ((1012 - (4 * j + len S j) : Nat) : Int)
            omega
          have HRl : Hid ((restL K Lk j S).length = 1020) := restL_len hn
          have HRe : Hid ((⟨(headL K Lk j S j).toArray⟩ : ByteArray) ++ ⟨Array.replicate (1012 - (4 * j + len S j)) 0⟩ ++ ⟨(bodyL S j).toArray⟩ = ⟨(restL K Lk j S).toArray⟩) := by
            show (⟨(headL K Lk j S j).toArray⟩ : ByteArray) ++ ⟨Array.replicate (1012 - (4 * j + len S j)) 0⟩ ++ ⟨(bodyL S j).toArray⟩ = ⟨(restL K Lk j S).toArray⟩
            rw [← List.toArray_replicate, app_mk, app_mk]
            rfl
          have HSe : Hid _ := sealed_eq (K := K) (Lk := Lk) hn
          have l1 : (bodyL S j).length ≤ 1024 := by rw [bodyL_len]; omega
          have l2 : (headL K Lk j S j).length ≤ 1024 := by rw [headL_len]; omega
          rw [HF.out]
          have hF : 1012 - (4 * j + len S j) ≤ 1012 := by omega
          generalize 1012 - (4 * j + len S j) = F at *
          obtain ⟨Y1, hmk, hcv, hb1⟩ := zero_text wr F (by omega)
          have HB1 : Hid (Below X.heap.size X Y1) := keepBelow HBj.out hb1
          clear hb1
          go_wp2_with fail
          rw [HRe.out]
          refine (rsum _ _ (by rw [size_mk, HRl.out]; omega)).mono ?_
          rintro e Y2 ⟨rfl, rfl⟩
          have hcl := crc_lt ⟨(restL K Lk j S).toArray⟩
          have HSe2 : Hid ((⟨(be (crc ⟨(restL K Lk j S).toArray⟩) 4).toArray⟩ : ByteArray) ++ ⟨(restL K Lk j S).toArray⟩ = ⟨(sealed K Lk j S).toArray⟩) := by
            show (⟨(be (crc ⟨(restL K Lk j S).toArray⟩) 4).toArray⟩ : ByteArray) ++ ⟨(restL K Lk j S).toArray⟩ = ⟨(sealed K Lk j S).toArray⟩
            rw [app_mk, HSe.out]
          have l5 := be_len (crc ⟨(restL K Lk j S).toArray⟩) 4
          have l6 := HRl.out
          generalize crc ⟨(restL K Lk j S).toArray⟩ = cc at *
          go_wp2_with fail
          refine (rbytes cc 4 _ (by omega) (by omega)).mono ?_
          rintro e Y2 ⟨rfl, hb2⟩
          have HB2 : Hid (Below w.heap.size w Y2) := keepBelow (keepBelow HBx.out HB1.out) hb2
          clear hb2
          go_wp2_with fail
          go_ret2
          refine ⟨?_, HB2.out⟩
          show Ending.returned (.tuple #[.string ((⟨(be cc 4).toArray⟩ : ByteArray) ++ ⟨(restL K Lk j S).toArray⟩), .int .i64 0]) = _
          rw [HSe2.out]
end Go.Proofs.Ythimnpobcfkghaa
