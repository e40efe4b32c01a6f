/- The contracts of value.Rows and relstoreref.OrderRows: lists of values that lie in memory, by the first place at which they are not the same. -/
import Derived.Test.YthimnpobcfkghaaLess
import Derived.Deep.LoopGhost
namespace Go.Proofs.Ythimnpobcfkghaa
open Go.RowKit
attribute [local go_sem ↓] Go.wp_at_zero Go.wp_at_succ

/- n values in a block, from off on -/
def Lies (w : World) (b off n : Nat) (K N : Nat → Int) (S : Nat → ByteArray) : Prop :=
  ∀ i, i < n → w.cell? ⟨b, off + i * 3, none⟩ = some (.int .i64 (K i)) ∧ w.cell? ⟨b, off + i * 3 + 1, none⟩ = some (.int .i64 (N i)) ∧ w.cell? ⟨b, off + i * 3 + 2, none⟩ = some (.string (S i))
theorem Lies.lt {w : World} {b off n : Nat} {K N : Nat → Int} {S : Nat → ByteArray} (h : Lies w b off n K N S) (hn : 0 < n) : b < w.heap.size := World.block_lt_of_cell? w ⟨b, off + 0 * 3, none⟩ (h 0 hn).1
theorem Lies.below {w X : World} {b off n : Nat} {K N : Nat → Int} {S : Nat → ByteArray} (h : Lies w b off n K N S) (hb : Below w.heap.size w X) : Lies X b off n K N S := by
  intro i hi
  have hlt := h.lt (by omega)
  obtain ⟨c0, c1, c2⟩ := h i hi
  exact ⟨keepCell hb hlt c0, keepCell hb hlt c1, keepCell hb hlt c2⟩

/- the first that is not 0 -/
def fz (f : Nat → Int) : Nat → Int
  | 0 => 0
  | k + 1 => if fz f k = 0 then f k else fz f k
theorem fz_z {f : Nat → Int} {k : Nat} (h : fz f k = 0) : fz f (k + 1) = f k := by simp [fz, h]
theorem fz_nz {f : Nat → Int} {k : Nat} (h : ¬ fz f k = 0) : ∀ m, k ≤ m → fz f m = fz f k := by
  intro m hm
  induction m with
  | zero => have : k = 0 := by omega
            subst this; rfl
  | succ m ih =>
    rcases Nat.lt_or_ge m k with h' | h'
    · have : k = m + 1 := by omega
      subst this; rfl
    · have := ih h'
      simp only [fz]
      rw [this, if_neg h]
def ordL (f : Nat → Int) (n m : Nat) : Int := if fz f (min n m) = 0 then cmpI n m else fz f (min n m)
theorem ordL_early {f : Nat → Int} {n m k : Nat} (hk : k < min n m) (hz : fz f k = 0) (hn : ¬ f k = 0) : ordL f n m = f k := by
  have h1 : fz f (k + 1) = f k := fz_z hz
  have h2 := fz_nz (k := k + 1) (by rw [h1]; exact hn) (min n m) (by omega)
  unfold ordL
  rw [h2, h1, if_neg hn]
theorem ordL_end {f : Nat → Int} {n m : Nat} (hz : fz f (min n m) = 0) : ordL f n m = cmpI n m := by unfold ordL; rw [if_pos hz]

set_option maxHeartbeats 1000000 in
theorem vrows (b off n cap b' off' m cap' : Nat) (K N : Nat → Int) (S : Nat → ByteArray) (K' N' : Nat → Int) (S' : Nat → ByteArray) (w : World) (hA : Lies w b off n K N S) (hB : Lies w b' off' m K' N' S') (hn : n ≤ 4398046511104) (hm : m ≤ 4398046511104) :
    Calls Try.prog 21 #[.slice (some ⟨b, off, none⟩) n cap, .slice (some ⟨b', off', none⟩) m cap'] w fun e w' => e = .returned (.int .i64 (ordL (fun i => ordV (K i) (N i) (S i) (K' i) (N' i) (S' i)) n m)) ∧ Below w.heap.size w w' := by
  have HA : Hid (Lies w b off n K N S) := hA
  have HB : Hid (Lies w b' off' m K' N' S') := hB
  clear hA hB
  rcases Nat.lt_or_ge m n with hnm | hnm
  · go_enter Try.func21, Try.ntmps21
    go_wp2
    go_loopw [12] (fun x X => ∃ k : Nat, x = .int .i64 k ∧ k ≤ m ∧ Hid (fz (fun i => ordV (K i) (N i) (S i) (K' i) (N' i) (S' i)) k = 0) ∧ Below w.heap.size w X) (fun x _ => m - (intOf x).toNat)
    case atStart => exact ⟨0, rfl, Nat.zero_le _, (rfl : fz (fun i => ordV (K i) (N i) (S i) (K' i) (N' i) (S' i)) 0 = 0), Below.refl _ _⟩
    case round =>
      obtain ⟨k, rfl, hk, HZ, hb0⟩ := hrel
      by_cases hlt : k < m
      · have kn : k < n := by omega
        have km : k < m := by omega
        have ki : (0 : Int) ≤ (k : Int) := by omega
        have kn' : (k : Int) < (n : Int) := by omega
        have km' : (k : Int) < (m : Int) := by omega
        obtain ⟨a0, a1, a2⟩ := (HA.out.below hb0) k kn
        obtain ⟨b0, b1, b2⟩ := (HB.out.below hb0) k km
        have za := (HA.out.below hb0).lt (by omega)
        have zb := (HB.out.below hb0).lt (by omega)
        by_cases hz : ((ordV (K k) (N k) (S k) (K' k) (N' k) (S' k)) != 0) = true
        · have HE : Hid (ordL (fun i => ordV (K i) (N i) (S i) (K' i) (N' i) (S' i)) n m = (ordV (K k) (N k) (S k) (K' k) (N' k) (S' k))) := ordL_early (by omega) HZ.out (by simpa using hz)
          go_wp2_with fail
          go_region_held3 (fun w' => Below w.heap.size w w' ∧ b < w'.heap.size ∧ b' < w'.heap.size ∧ w'.cell? ⟨b, off + k * 3, none⟩ = some (.int .i64 (K k)) ∧ w'.cell? ⟨b, off + k * 3 + 1, none⟩ = some (.int .i64 (N k)) ∧ w'.cell? ⟨b, off + k * 3 + 1 + 1, none⟩ = some (.string (S k)) ∧ w'.cell? ⟨b', off' + k * 3, none⟩ = some (.int .i64 (K' k)) ∧ w'.cell? ⟨b', off' + k * 3 + 1, none⟩ = some (.int .i64 (N' k)) ∧ w'.cell? ⟨b', off' + k * 3 + 1 + 1, none⟩ = some (.string (S' k))) (first | exact ⟨hb0.drew, za, zb, a0, a1, a2, b0, b1, b2⟩ | (go_split_ands; and_intros <;> assumption) | (go_split_ands; exact ⟨keepBelow (by assumption) hb, keepSize hb (by assumption), keepSize hb (by assumption), keepCell hb (by assumption) (by assumption), keepCell hb (by assumption) (by assumption), keepCell hb (by assumption) (by assumption), keepCell hb (by assumption) (by assumption), keepCell hb (by assumption) (by assumption), keepCell hb (by assumption) (by assumption)⟩))
            (first | (go_at_call 22; refine (vorder _ _ _ _ _ _ _).mono ?_; rintro e w' ⟨rfl, hb⟩))
          go_wp2
          go_ret
          go_split_ands
          exact ⟨by rw [HE.out]; rfl, by assumption⟩
        · have hz' : ((ordV (K k) (N k) (S k) (K' k) (N' k) (S' k)) != 0) = false := by simpa using hz
          have HN : Hid (fz (fun i => ordV (K i) (N i) (S i) (K' i) (N' i) (S' i)) (k + 1) = 0) := (fz_z HZ.out).trans (by simpa using hz)
          clear hz
          go_wp2_with fail
          go_region_held3 (fun w' => Below w.heap.size w w' ∧ b < w'.heap.size ∧ b' < w'.heap.size ∧ w'.cell? ⟨b, off + k * 3, none⟩ = some (.int .i64 (K k)) ∧ w'.cell? ⟨b, off + k * 3 + 1, none⟩ = some (.int .i64 (N k)) ∧ w'.cell? ⟨b, off + k * 3 + 1 + 1, none⟩ = some (.string (S k)) ∧ w'.cell? ⟨b', off' + k * 3, none⟩ = some (.int .i64 (K' k)) ∧ w'.cell? ⟨b', off' + k * 3 + 1, none⟩ = some (.int .i64 (N' k)) ∧ w'.cell? ⟨b', off' + k * 3 + 1 + 1, none⟩ = some (.string (S' k))) (first | exact ⟨hb0.drew, za, zb, a0, a1, a2, b0, b1, b2⟩ | (go_split_ands; and_intros <;> assumption) | (go_split_ands; exact ⟨keepBelow (by assumption) hb, keepSize hb (by assumption), keepSize hb (by assumption), keepCell hb (by assumption) (by assumption), keepCell hb (by assumption) (by assumption), keepCell hb (by assumption) (by assumption), keepCell hb (by assumption) (by assumption), keepCell hb (by assumption) (by assumption), keepCell hb (by assumption) (by assumption)⟩))
            (first | (go_at_call 22; refine (vorder _ _ _ _ _ _ _).mono ?_; rintro e w' ⟨rfl, hb⟩))
          go_wp2
          go_split_ands
          go_roundw
          case rel => exact ⟨k + 1, by go_num, by omega, HN, by assumption⟩
          case measure => simp [intOf]; omega
      · have HE : Hid (ordL (fun i => ordV (K i) (N i) (S i) (K' i) (N' i) (S' i)) n m = cmpI n m) := ordL_end (by rw [Nat.min_eq_right (Nat.le_of_lt hnm), ← (show k = m by omega)]; exact HZ.out)
        have Hb : Hid _ := hb0
        clear hb0
        go_wp2_with (go_at_call 48; refine (cmpInt _ _ _).mono ?_; rintro e w' ⟨rfl, rfl⟩)
        go_ret
        exact ⟨by rw [HE.out]; rfl, Hb.out⟩
  · go_enter Try.func21, Try.ntmps21
    go_wp2
    go_loopw [12] (fun x X => ∃ k : Nat, x = .int .i64 k ∧ k ≤ n ∧ Hid (fz (fun i => ordV (K i) (N i) (S i) (K' i) (N' i) (S' i)) k = 0) ∧ Below w.heap.size w X) (fun x _ => n - (intOf x).toNat)
    case atStart => exact ⟨0, rfl, Nat.zero_le _, (rfl : fz (fun i => ordV (K i) (N i) (S i) (K' i) (N' i) (S' i)) 0 = 0), Below.refl _ _⟩
    case round =>
      obtain ⟨k, rfl, hk, HZ, hb0⟩ := hrel
      by_cases hlt : k < n
      · have kn : k < n := by omega
        have km : k < m := by omega
        have ki : (0 : Int) ≤ (k : Int) := by omega
        have kn' : (k : Int) < (n : Int) := by omega
        have km' : (k : Int) < (m : Int) := by omega
        obtain ⟨a0, a1, a2⟩ := (HA.out.below hb0) k kn
        obtain ⟨b0, b1, b2⟩ := (HB.out.below hb0) k km
        have za := (HA.out.below hb0).lt (by omega)
        have zb := (HB.out.below hb0).lt (by omega)
        by_cases hz : ((ordV (K k) (N k) (S k) (K' k) (N' k) (S' k)) != 0) = true
        · have HE : Hid (ordL (fun i => ordV (K i) (N i) (S i) (K' i) (N' i) (S' i)) n m = (ordV (K k) (N k) (S k) (K' k) (N' k) (S' k))) := ordL_early (by omega) HZ.out (by simpa using hz)
          go_wp2_with fail
          go_region_held3 (fun w' => Below w.heap.size w w' ∧ b < w'.heap.size ∧ b' < w'.heap.size ∧ w'.cell? ⟨b, off + k * 3, none⟩ = some (.int .i64 (K k)) ∧ w'.cell? ⟨b, off + k * 3 + 1, none⟩ = some (.int .i64 (N k)) ∧ w'.cell? ⟨b, off + k * 3 + 1 + 1, none⟩ = some (.string (S k)) ∧ w'.cell? ⟨b', off' + k * 3, none⟩ = some (.int .i64 (K' k)) ∧ w'.cell? ⟨b', off' + k * 3 + 1, none⟩ = some (.int .i64 (N' k)) ∧ w'.cell? ⟨b', off' + k * 3 + 1 + 1, none⟩ = some (.string (S' k))) (first | exact ⟨hb0.drew, za, zb, a0, a1, a2, b0, b1, b2⟩ | (go_split_ands; and_intros <;> assumption) | (go_split_ands; exact ⟨keepBelow (by assumption) hb, keepSize hb (by assumption), keepSize hb (by assumption), keepCell hb (by assumption) (by assumption), keepCell hb (by assumption) (by assumption), keepCell hb (by assumption) (by assumption), keepCell hb (by assumption) (by assumption), keepCell hb (by assumption) (by assumption), keepCell hb (by assumption) (by assumption)⟩))
            (first | (go_at_call 22; refine (vorder _ _ _ _ _ _ _).mono ?_; rintro e w' ⟨rfl, hb⟩))
          go_wp2
          go_ret
          go_split_ands
          exact ⟨by rw [HE.out]; rfl, by assumption⟩
        · have hz' : ((ordV (K k) (N k) (S k) (K' k) (N' k) (S' k)) != 0) = false := by simpa using hz
          have HN : Hid (fz (fun i => ordV (K i) (N i) (S i) (K' i) (N' i) (S' i)) (k + 1) = 0) := (fz_z HZ.out).trans (by simpa using hz)
          clear hz
          go_wp2_with fail
          go_region_held3 (fun w' => Below w.heap.size w w' ∧ b < w'.heap.size ∧ b' < w'.heap.size ∧ w'.cell? ⟨b, off + k * 3, none⟩ = some (.int .i64 (K k)) ∧ w'.cell? ⟨b, off + k * 3 + 1, none⟩ = some (.int .i64 (N k)) ∧ w'.cell? ⟨b, off + k * 3 + 1 + 1, none⟩ = some (.string (S k)) ∧ w'.cell? ⟨b', off' + k * 3, none⟩ = some (.int .i64 (K' k)) ∧ w'.cell? ⟨b', off' + k * 3 + 1, none⟩ = some (.int .i64 (N' k)) ∧ w'.cell? ⟨b', off' + k * 3 + 1 + 1, none⟩ = some (.string (S' k))) (first | exact ⟨hb0.drew, za, zb, a0, a1, a2, b0, b1, b2⟩ | (go_split_ands; and_intros <;> assumption) | (go_split_ands; exact ⟨keepBelow (by assumption) hb, keepSize hb (by assumption), keepSize hb (by assumption), keepCell hb (by assumption) (by assumption), keepCell hb (by assumption) (by assumption), keepCell hb (by assumption) (by assumption), keepCell hb (by assumption) (by assumption), keepCell hb (by assumption) (by assumption), keepCell hb (by assumption) (by assumption)⟩))
            (first | (go_at_call 22; refine (vorder _ _ _ _ _ _ _).mono ?_; rintro e w' ⟨rfl, hb⟩))
          go_wp2
          go_split_ands
          go_roundw
          case rel => exact ⟨k + 1, by go_num, by omega, HN, by assumption⟩
          case measure => simp [intOf]; omega
      · have HE : Hid (ordL (fun i => ordV (K i) (N i) (S i) (K' i) (N' i) (S' i)) n m = cmpI n m) := ordL_end (by rw [Nat.min_eq_left hnm, ← (show k = n by omega)]; exact HZ.out)
        have Hb : Hid _ := hb0
        clear hb0
        go_wp2_with (go_at_call 48; refine (cmpInt _ _ _).mono ?_; rintro e w' ⟨rfl, rfl⟩)
        go_ret
        exact ⟨by rw [HE.out]; rfl, Hb.out⟩
end Go.Proofs.Ythimnpobcfkghaa
