/- the document's disk as one state: each call's answer by the same total functions as the program's -/
import Derived.Test.YtfjkockcgddgbaaGreatDrsA
import Derived.Test.YtfjkockcgddgbaaGreatWal0
import Derived.Test.YtfjkockcgddgbaaGreatWal3
import Derived.Deep.QuietTactic
import Derived.BigQuiet
namespace Go.Proofs.YtfjkockcgddgbaaGreat
open Go.RowKit Go.Lib
structure RDx (X : World) (B R : Nat) (S : DS) (l0 l1 : ByteArray) (vw : Value) : Prop where
  rd : RD X B R l0 l1 vw S.ws (nrm S.left) S.count S.down
  e1 : S.lb 1 = ll l0
  e3 : S.lb 3 = ll l1
  sees : seesD S.lb l0 l1 S.ws
def RDs (X : World) (B R : Nat) (S : DS) : Prop := ∃ l0 l1 vw, RDx X B R S l0 l1 vw
theorem RDs.below {X Y : World} {B R : Nat} {S : DS} (h : RDs X B R S) (hb : Below X.heap.size X Y) : RDs Y B R S := by
  obtain ⟨l0, l1, vw, h⟩ := h
  exact ⟨l0, l1, vw, h.rd.below hb, h.e1, h.e3, h.sees⟩
theorem RDs.belP {X Y : World} {B R : Nat} {S : DS} (h : RDs X B R S) (hb : BelT tyP B X Y) : RDs Y B R S := by
  obtain ⟨l0, l1, vw, h⟩ := h
  exact ⟨l0, l1, vw, h.rd.belP hb, h.e1, h.e3, h.sees⟩
theorem PDs.belR {X Y : World} {B D : Nat} {S : DS} (h : PDs X B D S) (hb : BelT tyR B X Y) : PDs Y B D S := by
  obtain ⟨vb, vw, h⟩ := h
  exact ⟨vb, vw, h.belR hb⟩
theorem RDs.lt {X : World} {B R : Nat} {S : DS} (h : RDs X B R S) : R < X.heap.size := by
  obtain ⟨l0, l1, vw, h⟩ := h
  exact h.rd.lt
theorem RDs.low {X : World} {B R : Nat} {S : DS} (h : RDs X B R S) : B ≤ R := by
  obtain ⟨l0, l1, vw, h⟩ := h
  exact h.rd.low
theorem RDs.nf {X : World} {B R : Nat} {S : DS} (h : RDs X B R S) : ¬ farT tyR X R := by
  obtain ⟨l0, l1, vw, h⟩ := h
  exact h.rd.nf
theorem RDs.len {X : World} {B R : Nat} {S : DS} (h : RDs X B R S) : (S.lb 0).length ≤ 67108864 ∧ (S.lb 1).length ≤ 67108864 ∧ (S.lb 2).length ≤ 67108864 ∧ (S.lb 3).length ≤ 67108864 := by
  obtain ⟨l0, l1, vw, h⟩ := h
  have a0 := h.rd.s0
  have a1 := h.rd.s1
  refine ⟨?_, by rw [h.e1]; exact a0, ?_, by rw [h.e3]; exact a1⟩
  · rw [h.sees.1]; exact foldF_len h.rd.oks a0
  · rw [h.sees.2]; exact foldF_len h.rd.oks a1
theorem rop_post {f at' : Int} {t : ByteArray} {c : Bool} {X : World} {B R : Nat} {S : DS} {l0 l1 : ByteArray} {vw : Value} {e : Ending} {w' : World} (hP : RDx X B R S l0 l1 vw) (h : ropPost f at' t c X B R l0 l1 vw S.ws (nrm S.left) S.count S.down e w') :
    e = .returned (.int .i64 (opD S f at' t c).1) ∧ RDs w' B R (opD S f at' t c).2 ∧ BelT tyR B X w' := by
  unfold opD askE
  rcases h with ⟨h1, h2, rfl⟩ | ⟨h1, h2, h3, h4, h5⟩ | ⟨h1, h2, h3, h4, ⟨f', p, vw', rfl, rfl, hf2, h6⟩, h7⟩
  · rw [h1]
    exact ⟨h2, ⟨l0, l1, vw, hP⟩, BelT.refl _ _ _⟩
  · rw [h1]
    cases hd : S.down with
    | true =>
      refine ⟨h3, ⟨l0, l1, vw, ⟨?_, hP.e1, hP.e3, hP.sees⟩⟩, h5⟩
      show RD w' B R l0 l1 vw S.ws (nrm S.left) S.count S.down
      rw [hd]; exact h4
    | false =>
      have hl : S.left = 0 := by
        rcases h2 with h2 | h2
        · rw [hd] at h2; cases h2
        · exact (nrm_zero _).1 h2
      simp only [hl, if_true, Bool.false_eq_true, if_false]
      rw [hl] at h4
      exact ⟨h3, ⟨l0, l1, vw, ⟨h4, hP.e1, hP.e3, hP.sees⟩⟩, h5⟩
  · have hl : ¬ S.left = 0 := fun k => h3 ((nrm_zero _).2 k)
    rw [h1, h2]
    simp only [hl, if_true, Bool.false_eq_true, if_false]
    refine ⟨h4, ⟨l0, l1, vw', ⟨?_, ?_, ?_, ⟨?_, ?_⟩⟩⟩, h7⟩
    · show RD w' B R l0 l1 vw' (S.ws ++ [⟨f', p, t, c⟩]) (nrm (decL S.left)) (S.count + 1) false
      rw [nrm_dec]; exact h6
    · show updF S.lb (2 * f') _ 1 = _
      rw [updF_ne _ _ (by omega)]; exact hP.e1
    · show updF S.lb (2 * f') _ 3 = _
      rw [updF_ne _ _ (by omega)]; exact hP.e3
    · show updF S.lb (2 * f') (onL p t c (S.lb (2 * f'))) 0 = foldF 0 (S.ws ++ [⟨f', p, t, c⟩]) (ll l0)
      rw [foldF_snoc]
      by_cases h : f' = 0
      · subst h
        rw [if_pos rfl, updF_at, ← hP.sees.1]
      · rw [if_neg h, updF_ne _ _ (by omega), hP.sees.1]
    · show updF S.lb (2 * f') (onL p t c (S.lb (2 * f'))) 2 = foldF 1 (S.ws ++ [⟨f', p, t, c⟩]) (ll l1)
      rw [foldF_snoc]
      by_cases h : f' = 1
      · subst h
        rw [if_pos rfl, updF_at, ← hP.sees.2]
      · rw [if_neg h, updF_ne _ _ (by omega), hP.sees.2]
theorem rwriteD (f at' : Int) (t : ByteArray) (X : World) (B R : Nat) (S : DS) (m : Nat) (h : RDs X B R S) (hB : B ≤ X.heap.size) (ho : okS S m) (hm : m ≤ 1000000) :
    Calls Tryz.prog 60 #[(.pointer (some ⟨R, 0, none⟩)), .int .i64 f, .int .i64 at', .string t] X fun e w' => e = .returned (.int .i64 (opD S f at' t false).1) ∧ RDs w' B R (opD S f at' t false).2 ∧ BelT tyR B X w' := by
  obtain ⟨l0, l1, vw, h⟩ := h
  obtain ⟨h1, h2, h3, h4⟩ := ho
  exact (rwrite f at' t X B R l0 l1 vw S.ws (nrm S.left) S.count S.down h.rd hB (nrm_bounds h1) ⟨h2, by omega⟩ (by omega)).mono fun e w' hp => rop_post h hp
theorem rcutD (f at' : Int) (X : World) (B R : Nat) (S : DS) (m : Nat) (h : RDs X B R S) (hB : B ≤ X.heap.size) (ho : okS S m) (hm : m ≤ 1000000) :
    Calls Tryz.prog 67 #[(.pointer (some ⟨R, 0, none⟩)), .int .i64 f, .int .i64 at'] X fun e w' => e = .returned (.int .i64 (opD S f at' ⟨#[]⟩ true).1) ∧ RDs w' B R (opD S f at' ⟨#[]⟩ true).2 ∧ BelT tyR B X w' := by
  obtain ⟨l0, l1, vw, h⟩ := h
  obtain ⟨h1, h2, h3, h4⟩ := ho
  exact (rcut f at' X B R l0 l1 vw S.ws (nrm S.left) S.count S.down h.rd hB (nrm_bounds h1) ⟨h2, by omega⟩ (by omega)).mono fun e w' hp => rop_post h hp
theorem rsyncD (f : Int) (X : World) (B R : Nat) (S : DS) (m : Nat) (h : RDs X B R S) (hB : B ≤ X.heap.size) (ho : okS S m) (hm : m ≤ 1000000) :
    Calls Tryz.prog 64 #[(.pointer (some ⟨R, 0, none⟩)), .int .i64 f] X fun e w' => e = .returned (.int .i64 (synD S f).1) ∧ RDs w' B R (synD S f).2 ∧ BelT tyR B X w' := by
  obtain ⟨l0, l1, vw, hP⟩ := h
  obtain ⟨h1, h2, h3, h4⟩ := ho
  refine (rsync f X B R l0 l1 vw S.ws (nrm S.left) S.count S.down hP.rd hB (nrm_bounds h1) ⟨h2, by omega⟩ (by omega)).mono fun e w' h => ?_
  clear h1 h2 h3 h4
  unfold synD askE
  rcases h with ⟨h1, h2, rfl⟩ | ⟨h1, h2, h3, h4, h5⟩ | ⟨h1, h2, h3, h4, ⟨f', l0', l1', vw', rfl, hf2, h6, g0, g1⟩, h7⟩
  · rw [h1]
    exact ⟨h2, ⟨l0, l1, vw, hP⟩, BelT.refl _ _ _⟩
  · rw [h1]
    cases hd : S.down with
    | true =>
      refine ⟨h3, ⟨l0, l1, vw, ⟨?_, hP.e1, hP.e3, hP.sees⟩⟩, h5⟩
      show RD w' B R l0 l1 vw S.ws (nrm S.left) S.count S.down
      rw [hd]; exact h4
    | false =>
      have hl : S.left = 0 := by
        rcases h2 with h2 | h2
        · rw [hd] at h2; cases h2
        · exact (nrm_zero _).1 h2
      simp only [hl, if_true, Bool.false_eq_true, if_false]
      rw [hl] at h4
      exact ⟨h3, ⟨l0, l1, vw, ⟨h4, hP.e1, hP.e3, hP.sees⟩⟩, h5⟩
  · have hl : ¬ S.left = 0 := fun k => h3 ((nrm_zero _).2 k)
    rw [h1, h2]
    simp only [hl, if_true, Bool.false_eq_true, if_false]
    have e1 := hP.e1
    have e3 := hP.e3
    have hs := hP.sees
    refine ⟨h4, ⟨l0', l1', vw', ⟨?_, ?_, ?_, ⟨?_, ?_⟩⟩⟩, h7⟩
    · show RD w' B R l0' l1' vw' (othF f' S.ws) (nrm (decL S.left)) (S.count + 1) false
      rw [nrm_dec]; exact h6
    all_goals rcases (show f' = 0 ∨ f' = 1 by omega) with rfl | rfl
    · show updF S.lb 1 (foldF 0 S.ws (S.lb 1)) 1 = _
      rw [updF_at, (g0 rfl).1, e1]
    · show updF S.lb 3 (foldF 1 S.ws (S.lb 3)) 1 = _
      rw [updF_ne _ _ (by decide), (g1 rfl).1, e1]
    · show updF S.lb 1 (foldF 0 S.ws (S.lb 1)) 3 = _
      rw [updF_ne _ _ (by decide), (g0 rfl).2, e3]
    · show updF S.lb 3 (foldF 1 S.ws (S.lb 3)) 3 = _
      rw [updF_at, (g1 rfl).2, e3]
    · show updF S.lb 1 (foldF 0 S.ws (S.lb 1)) 0 = foldF 0 (othF 0 S.ws) (ll l0')
      rw [updF_ne _ _ (by decide), foldF_oth_same, (g0 rfl).1, hs.1]
    · show updF S.lb 3 (foldF 1 S.ws (S.lb 3)) 0 = foldF 0 (othF 1 S.ws) (ll l0')
      rw [updF_ne _ _ (by decide), foldF_oth_ne (by decide), (g1 rfl).1, hs.1]
    · show updF S.lb 1 (foldF 0 S.ws (S.lb 1)) 2 = foldF 1 (othF 0 S.ws) (ll l1')
      rw [updF_ne _ _ (by decide), foldF_oth_ne (by decide), (g0 rfl).2, hs.2]
    · show updF S.lb 3 (foldF 1 S.ws (S.lb 3)) 2 = foldF 1 (othF 1 S.ws) (ll l1')
      rw [updF_ne _ _ (by decide), foldF_oth_same, (g1 rfl).2, hs.2]
theorem rseenD (f : Nat) (hf : f < 2) (X : World) (B R : Nat) (S : DS) (m : Nat) (h : RDs X B R S) (ho : okS S m) (hm : m ≤ 1000000) :
    Calls Tryz.prog 48 #[(.pointer (some ⟨R, 0, none⟩)), .int .i64 (f : Int)] X fun e w' => e = .returned (.string ⟨(S.lb (2 * f)).toArray⟩) ∧ Below X.heap.size X w' := by
  obtain ⟨l0, l1, vw, h⟩ := h
  refine (rseen f hf X B R l0 l1 vw S.ws (nrm S.left) S.count S.down h.rd (by have := ho.2.2.2; omega) S.lb h.sees).mono ?_
  rintro e w' ⟨y, rfl, hy, hb⟩
  exact ⟨by rw [mk_ll hy], hb⟩
theorem rfailD (n : Int) (X : World) (B R : Nat) (S : DS) (h : RDs X B R S) : Calls Tryz.prog 23 #[(.pointer (some ⟨R, 0, none⟩)), .int .i64 n] X fun e w' => e = .returned (.tuple #[]) ∧ RDs w' B R { S with left := n } ∧ BelT tyR B X w' := by
  obtain ⟨l0, l1, vw, h⟩ := h
  refine (rfail n X B R l0 l1 vw S.ws (nrm S.left) S.count S.down h.rd).mono ?_
  rintro e w' ⟨h1, h2, h3⟩
  exact ⟨h1, ⟨l0, l1, vw, ⟨h2, h.e1, h.e3, h.sees⟩⟩, h3⟩
end Go.Proofs.YtfjkockcgddgbaaGreat

namespace Go.Proofs.YtfjkockcgddgbaaGreat
open Go.RowKit Go.Lib
attribute [local go_sem ↓] Go.wp_at_zero Go.wp_at_succ
theorem one_textR (X : World) (x : Nat) : (convert 79 9 (.slice (some ⟨X.heap.size, 0, none⟩) 1 1)).run Tryz.prog (X.alloc (.cells #[.int .u8 ((x : Int) % 256)] 5)) = .ok (.string ⟨#[UInt8.ofNat x]⟩) (X.alloc (.cells #[.int .u8 ((x : Int) % 256)] 5)) := by
  have := run_convert_bytes_back (P := Tryz.prog) (X.alloc (.cells #[.int .u8 ((x : Int) % 256)] 5)) 79 9 5 ⟨X.heap.size, 0, none⟩ 1 [UInt8.ofNat x] Tryz.underlying79 Tryz.underlying5 Tryz.underlying9 (fun j hj => by
    have : j = 0 := by simpa using hj
    subst this
    rw [Addr.add_lit]
    simp only [World.cell?, World.alloc_heap_new]
    simp)
  exact this
theorem app_mkR (a b : List UInt8) : ((⟨a.toArray⟩ : ByteArray) ++ ⟨b.toArray⟩) = ⟨(a ++ b).toArray⟩ := by
  apply ByteArray.ext
  rw [ByteArray.data_append]
  simp
theorem size_mkR (l : List UInt8) : (⟨l.toArray⟩ : ByteArray).size = l.length := by simp [ByteArray.size]
def beR : Nat → Nat → List UInt8
  | _, 0 => []
  | n, k + 1 => beR (n / 256) k ++ [UInt8.ofNat n]
set_option maxHeartbeats 600000 in
theorem rbytesR (n k : Nat) (w : World) (hk : k ≤ 8) (hn : n < 18446744073709551616) :
    Calls Tryz.prog 61 #[.int .u64 n, .int .i64 k] w fun e w' => e = .returned (.string ⟨(beR n k).toArray⟩) ∧ Below w.heap.size w w' := by
  go_enter Tryz.func61, Tryz.ntmps61
  go_wp2_with fail
  go_loopw [0, 1, 5] (fun x y z X => ∃ (m j : Nat) (l : List UInt8), x = .int .u64 m ∧ y = .int .i64 j ∧ z = .string ⟨l.toArray⟩ ∧ m < 18446744073709551616 ∧ j ≤ 8 ∧ l.length ≤ 8 ∧ Hid (beR n k = beR m j ++ l ∧ j + l.length = k) ∧ Hid (Below w.heap.size w X)) (fun _ y _ _ => (intOf y).toNat)
  case atStart => exact ⟨n, k, [], rfl, rfl, rfl, hn, hk, by simp, ⟨by simp, by simp⟩, Below.refl _ _⟩
  case round =>
    obtain ⟨m, j, l, rfl, rfl, rfl, hm, hj, hl, HE, HB⟩ := hrel
    by_cases h0 : j = 0
    · subst h0
      go_wp2_with fail
      go_ret
      exact ⟨by rw [HE.out.1]; rfl, HB.out⟩
    · obtain ⟨i, rfl⟩ : ∃ i, j = i + 1 := ⟨j - 1, by omega⟩
      have hcv := one_textR wr m
      have hsz : (⟨l.toArray⟩ : ByteArray).size = l.length := size_mkR l
      go_wp2_with fail
      refine ⟨⟨m / 256, i, UInt8.ofNat m :: l, by congr 1, rfl, congrArg Value.string (app_mkR [UInt8.ofNat m] l), by omega, by omega, ?_, ⟨?_, ?_⟩, HB.out.alloc HB.out.size _⟩, by simp [intOf]⟩
      · have := HE.out.2
        simp only [List.length_cons]
        omega
      · rw [HE.out.1]
        show (beR (m / 256) i ++ [UInt8.ofNat m]) ++ l = _
        simp
      · have := HE.out.2
        simp only [List.length_cons]
        omega
theorem beR_four (n : Nat) : (⟨(beR n 4).toArray⟩ : ByteArray) = fourB n := by
  have e1 : n / 256 / 256 = n / 65536 := by rw [Nat.div_div_eq_div_mul]
  have e2 : n / 256 / 256 / 256 = n / 16777216 := by rw [Nat.div_div_eq_div_mul, Nat.div_div_eq_div_mul]
  unfold fourB
  show (⟨([] ++ [UInt8.ofNat (n / 256 / 256 / 256)] ++ [UInt8.ofNat (n / 256 / 256)] ++ [UInt8.ofNat (n / 256)] ++ [UInt8.ofNat n]).toArray⟩ : ByteArray) = _
  rw [e2, e1]
  rfl
theorem rfour (n : Nat) (w : World) (hn : n < 18446744073709551616) :
    Calls Tryz.prog 61 #[.int .u64 n, .int .i64 4] w fun e w' => e = .returned (.string (fourB n)) ∧ Below w.heap.size w w' :=
  (rbytesR n 4 w (by decide) hn).mono fun e w' h => by rw [beR_four] at h; exact h
set_option maxHeartbeats 600000 in
theorem runb (s : ByteArray) (w : World) (hs : s.size = 4) :
    Calls Tryz.prog 51 #[.string s] w fun e w' => e = .returned (.int .u64 (numB s 0 : Nat)) ∧ w' = w := by
  go_enter Tryz.func51, Tryz.ntmps51
  go_wp2_with fail
  go_loop [3, 4] (fun x y => ∃ k : Nat, y = .int .i64 k ∧ x = .int .u64 (numK s 0 k : Nat) ∧ k ≤ s.size) (fun _ y => s.size - (intOf y).toNat)
  case atStart => exact ⟨0, rfl, rfl, Nat.zero_le _⟩
  case round =>
    obtain ⟨k, rfl, rfl, hk⟩ := hrel
    by_cases h0 : k < s.size
    · have h1 : (k : Int) < (s.size : Int) := by omega
      have b0 := bytS_lt s k
      have g0 := bytS_get h0
      have u0 := numK_7 s 0 (show k ≤ 4 by omega)
      have h3 : numK s 0 (k + 1) = 256 * numK s 0 k + bytS s k := by show numK s 0 k * 256 + bytS s (0 + k) = _; rw [Nat.zero_add]; omega
      have hk4 : k < 4 := by omega
      have hs8 : s.size ≤ 4 := by omega
      clear hs
      go_wp2
      go_round
      case rel => exact ⟨k + 1, by go_num, by rw [h3]; go_num, by omega⟩
      case measure => simp [intOf]; omega
    · obtain rfl : k = s.size := by omega
      go_wp2
      go_ret
      exact ⟨rfl, rfl⟩
set_option maxHeartbeats 1000000 in
theorem rslot (n f p : Nat) (w : World) (hn : n < 9223372036854775808) (hf : f < 9223372036854775808) (hp : p < 9223372036854775808) :
    Calls Tryz.prog 93 #[.int .i64 n, .int .i64 f, .int .i64 p] w fun e w' => e = .returned (.string (txtB n f p)) ∧ Below w.heap.size w w' := by
  have s1 := fourB_size n
  have s2 := fourB_size f
  have s3 := fourB_size p
  have HT : Hid (txtB n f p = (fourB n ++ fourB f ++ fourB p) ++ (fourB n ++ fourB f ++ fourB p)) := rfl
  go_enter Tryz.func93, Tryz.ntmps93
  go_wp2_with fail
  refine (rfour n _ (by omega)).mono ?_
  rintro e w1 ⟨rfl, hb1⟩
  go_wp2_with fail
  refine (rfour f _ (by omega)).mono ?_
  rintro e w2 ⟨rfl, hb2⟩
  go_wp2_with fail
  refine (rfour p _ (by omega)).mono ?_
  rintro e w3 ⟨rfl, hb3⟩
  have HB : Hid (Below w.heap.size w w3) := keepBelow (keepBelow hb1 hb2) hb3
  clear hb1 hb2 hb3
  go_wp2_with fail
  go_ret
  exact ⟨by rw [HT.out]; rfl, HB.out⟩
end Go.Proofs.YtfjkockcgddgbaaGreat
