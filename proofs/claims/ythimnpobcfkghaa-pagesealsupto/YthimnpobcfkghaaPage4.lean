/- The bytes of a page, plainly; the contract of page.Seal. -/
import Derived.Test.YthimnpobcfkghaaPage3
import Derived.Laws.IdiomStrings
import Derived.Laws.CopyOwn
import Derived.RangeFuncBox
namespace Go.Proofs.Ythimnpobcfkghaa
open Go.RowKit
attribute [local go_sem ↓] Go.wp_at_zero Go.wp_at_succ

def blank : List UInt8 := List.replicate 1024 0
theorem blank_len : blank.length = 1024 := by unfold blank; exact List.length_replicate
theorem blank_cells : cellsB blank = List.replicate 1024 (.int .u8 0) := by unfold cellsB blank; rw [List.map_replicate]; rfl
theorem blank_4 : (cellsB blank).toArray[4]? = some (.int .u8 0) := by rw [blank_cells]; kernel_rfl
def spl (l : List UInt8) (o : Nat) (s : ByteArray) : List UInt8 := l.take o ++ s.data.toList ++ l.drop (o + s.size)
/- where the k-th cell's end is -/
def at' (S : Nat → ByteArray) (k : Nat) : Nat := 1024 - (2 * k + len S k)
def lay (S : Nat → ByteArray) (l : List UInt8) : Nat → List UInt8
  | 0 => l
  | k + 1 => spl (put2 (put2 (lay S l k) (12 + 2 * k) (at' S (k + 1))) (at' S (k + 1)) (S k).size) (at' S (k + 1) + 2) (S k)
def head (k lk n : Nat) : List UInt8 := put4 (put2 (blank.set 4 (UInt8.ofNat k)) 6 n) 8 lk
def body (k lk n : Nat) (S : Nat → ByteArray) : List UInt8 := lay S (head k lk n) n
def sealed (k lk n : Nat) (S : Nat → ByteArray) : List UInt8 := put4 (body k lk n S) 0 (crc ⟨((body k lk n S).drop 4).toArray⟩)

theorem put2_len (l : List UInt8) (a n : Nat) : (put2 l a n).length = l.length := by simp [put2]
theorem put4_len (l : List UInt8) (a n : Nat) : (put4 l a n).length = l.length := by simp [put4, put2_len]
theorem spl_len (l : List UInt8) (o : Nat) (s : ByteArray) (h : o + s.size ≤ l.length) : (spl l o s).length = l.length := by
  have : s.data.size = s.size := rfl
  simp [spl]
  omega
theorem head_len (k lk n : Nat) : (head k lk n).length = 1024 := by unfold head; rw [put4_len, put2_len, List.length_set, blank_len]

theorem below_cell {N : Nat} {W W' : World} (h : Below N W W') {b o : Nat} {v : Value} (hb : b < N) (hc : W.cell? ⟨b, o, none⟩ = some v) : W'.cell? ⟨b, o, none⟩ = some v :=
  (World.cell?_of_block (h.block b hb)).trans hc
theorem spl_nil (l : List UInt8) (o : Nat) (s : ByteArray) (h : s.size = 0) : spl l o s = l := by
  have : s.data.toList = [] := by
    have h' : s.data.toList.length = 0 := h
    exact List.eq_nil_of_length_eq_zero h'
  simp [spl, this, h]
theorem hszU8 : (Try.prog.info? 5).map (·.size) = some 1 := by kernel_rfl
theorem Pg.copy {W : World} {g : Nat} {l : List UInt8} (h : Pg W g l) (off dl dc : Nat) (t : ByteArray) (hle : t.size ≤ dl) (hfit : off + t.size ≤ 1024) :
    ∃ W', (Builtin.copy_ #[66, 9] 3 #[.slice (some ⟨g, off, none⟩) dl dc, .string t]).run Try.prog W = .ok (.int .i64 t.size) W' ∧ Pg W' g (spl l off t) ∧ ∀ B, B ≤ g → Below B W W' := by
  have hl : (cellsB l).toArray.size = 1024 := by simp [cellsB, h.1]
  refine ⟨_, Lib.run_copy_row_string (P := Try.prog) W 66 9 3 5 g off dl dc t (cellsB l).toArray 5 Try.underlying66 hszU8 h.2 hle (by rw [hl]; exact hfit), ?_, fun B hB => below_setRow (Below.refl _ _) hB _⟩
  refine ⟨by rw [spl_len _ _ _ (by rw [h.1]; exact hfit)]; exact h.1, ?_⟩
  rw [setRow_heap W g _ _ _ _ h.2]
  congr 3
  simp [cellsB, spl, Lib.byteCells]
theorem copy0 (W : World) (d : Option Addr) (dl dc : Nat) (t : ByteArray) (h0 : t.size = 0) :
    (Builtin.copy_ #[66, 9] 3 #[.slice d dl dc, .string t]).run Try.prog W = .ok (.int .i64 0) W :=
  Lib.run_copy_empty_string (P := Try.prog) W 66 9 3 5 d dl dc t Try.underlying66 (by rw [hszU8]; rfl) h0
theorem Pg.text {W : World} {g : Nat} {l : List UInt8} (h : Pg W g l) (o : Nat) : (convert 66 9 (.slice (some ⟨g, o, none⟩) (1024 - o) (1024 - o))).run Try.prog W = .ok (.string ⟨(l.drop o).toArray⟩) W := by
  have hl : (l.drop o).length = 1024 - o := by rw [List.length_drop, h.1]
  have := run_convert_bytes_back (P := Try.prog) W 66 9 5 ⟨g, o, none⟩ (1024 - o) (l.drop o) Try.underlying66 Try.underlying5 Try.underlying9 (fun j hj => by
    rw [Addr.add_lit]
    have hj' : o + j < l.length := by rw [List.length_drop] at hj; omega
    simp [World.cell?, h.2, cellsB, hj'])
  rw [hl] at this
  exact this
theorem makeB (w : World) : (Instr.makeSlice 66 (.int .i64 1024) (.int .i64 1024)).run Try.prog w = .ok (.slice (some ⟨w.heap.size, 0, none⟩) 1024 1024) (w.alloc (.cells (cellsB blank).toArray 5)) := by
  have hI : (Try.prog.info? 5).map (fun i => (i.zero, i.size, i.bytes)) = some (some (.int .u8 0), 1, 1) := by kernel_rfl
  obtain ⟨i0, hi, hz0, hz1, hz2⟩ := info_parts hI
  rw [run_make w 66 5 i0 (.int .u8 0) Try.underlying66 hi hz0 .i64 .i64 1024 1024 (by decide) (by decide) (by rw [hz2]; decide) (by decide), hz1]
  have e : madeCells (Value.int IntKind.u8 0).cells ((1024 : Int).toNat * 1) = (cellsB blank).toArray := by
    apply Array.ext'
    show (madeCells #[.int .u8 0] 1024).toList = cellsB blank
    rw [toList_madeCells_one, blank_cells]
  rw [e]
  rfl

set_option maxRecDepth 20000 in
set_option maxHeartbeats 1000000 in
theorem cseal_ok (K Lk : Nat) (a : Option Addr) (n cap : Nat) (S : Nat → ByteArray) (w : World) (h : StA w a n S) (hK : 1 ≤ K ∧ K ≤ 5) (hL : Lk ≤ 2147483647) (hn : 4 * n + len S n ≤ 1012) :
    Calls Try.prog 26 #[.agg #[.int .i64 K, .int .i64 Lk, .slice a n cap]] w fun e w' => e = .returned (.tuple #[.string ⟨(sealed K Lk n S).toArray⟩, .int .i64 0]) ∧ Below w.heap.size w w' := by
  have HS : Hid (∀ W, Below w.heap.size w W → StA W a n S) := fun W hb => h.below hb
  clear h
  have hmk := makeB
  have k1 : ((K : Int) < 1) = False := by simp <;> omega
  have k2 : ((5 : Int) < K) = False := by simp <;> omega
  have k3 : ((Lk : Int) < 0) = False := by simp <;> omega
  have k4 : ((2147483647 : Int) < Lk) = False := by simp <;> omega
  go_enter Try.func26, Try.ntmps26
  go_wp2_with fail
  refine (cused a n cap S _ (HS.out _ ((Below.refl _ _).alloc (Nat.le_refl _) _)) (by omega)).mono ?_
  rintro e w1 ⟨rfl, rfl⟩
  have hu : ((1012 : Int) < ((4 * n + len S n : Nat) : Int)) = False := by simp; omega
  have b4 := blank_4
  go_wp2_with fail
  have P0 : Pg ((w.alloc (.cells #[.int .i64 K, .int .i64 Lk, .slice a n cap] 45)).alloc (.cells ((cellsB blank).set 4 (.int .u8 K)).toArray 5)) (w.heap.size + 1) (blank.set 4 (UInt8.ofNat K)) := by
    refine ⟨by rw [List.length_set, blank_len], ?_⟩
    have e : (cellsB blank).set 4 (.int .u8 K) = cellsB (blank.set 4 (UInt8.ofNat K)) := by
      unfold cellsB
      rw [List.map_set]
      congr 2
      have : K % 256 = K := by omega
      simp [this]
    rw [e]
    have := World.alloc_heap_new (w.alloc (.cells #[.int .i64 K, .int .i64 Lk, .slice a n cap] 45)) (.cells (cellsB (blank.set 4 (UInt8.ofNat K))).toArray 5)
    simpa using this
  refine (cputTwo _ 6 n _ _ P0 (by omega)).mono ?_
  rintro e W1 ⟨rfl, P1, B1⟩
  have q0 : W1.cell? ⟨w.heap.size, 0, none⟩ = some (.int .i64 K) := below_cell (B1 _ (Nat.le_refl _)) (by omega) (by go_simp)
  have q1 : W1.cell? ⟨w.heap.size, 1, none⟩ = some (.int .i64 Lk) := below_cell (B1 _ (Nat.le_refl _)) (by omega) (by go_simp)
  have q2 : W1.cell? ⟨w.heap.size, 2, none⟩ = some (.slice a n cap) := below_cell (B1 _ (Nat.le_refl _)) (by omega) (by go_simp)
  have HB1 : Hid (Below w.heap.size w W1) := ((((Below.refl _ _).alloc (Nat.le_refl _) _).alloc (by simp) _)).trans (B1 _ (Nat.le_succ _))
  have HP1 : Hid _ := P1
  clear B1 P0 P1 b4 hmk k1 k2 k3 k4 hu
  go_wp2_with fail
  refine (cputFour _ 8 Lk _ _ HP1.out (by omega)).mono ?_
  rintro e W2 ⟨rfl, P2, B2⟩
  have r2 : W2.cell? ⟨w.heap.size, 2, none⟩ = some (.slice a n cap) := below_cell (B2 _ (Nat.le_refl _)) (by omega) q2
  have HB2 : Hid (Below w.heap.size w W2) := HB1.out.trans (B2 _ (Nat.le_succ _))
  have HP2 : Hid (Pg W2 (w.heap.size + 1) (head K Lk n)) := P2
  clear B2 P2 HB1 HP1 q0 q1 q2
  go_wp2_with fail
  go_loopw [5, 50] (fun x y X => ∃ k : Nat, y = .int .i64 k ∧ x = .int .i64 (at' S k) ∧ k ≤ n ∧ Hid (Pg X (w.heap.size + 1) (lay S (head K Lk n) k)) ∧ Hid (Below w.heap.size w X)) (fun _ y _ => n - (intOf y).toNat)
  case atStart => exact ⟨0, rfl, rfl, Nat.zero_le _, HP2.out, HB2.out⟩
  case round =>
    obtain ⟨k, rfl, rfl, hk, HP, HB⟩ := hrel
    by_cases h0 : k < n
    · obtain ⟨b, off, rfl, hlt, hcells⟩ : ∃ b off, a = some ⟨b, off, none⟩ ∧ b < wr.heap.size ∧ ∀ j, j < n → wr.cell? ⟨b, off + j, none⟩ = some (.string (S j)) := by
        rcases HS.out _ HB.out with h | h
        · omega
        · exact h
      have c0 := hcells k h0
      have i1 : (k : Int) < (n : Int) := by omega
      have l1 := len_mono S (show k + 1 ≤ n by omega)
      have l2 : len S (k + 1) = len S k + (S k).size := rfl
      have s0 : (S k).size ≤ 1012 := by omega
      have a1 : at' S k ≤ 1024 := by unfold at'; omega
      have a2 : at' S (k + 1) ≤ 1022 := by unfold at'; omega
      have a3 : 12 + 2 * k + 2 ≤ at' S (k + 1) := by unfold at'; omega
      have a4 : at' S (k + 1) + 2 + (S k).size ≤ 1024 := by unfold at'; omega
      have HA : Hid ((at' S k : Int) - (2 + ((S k).size : Int)) = (at' S (k + 1) : Nat)) := by
        show (at' S k : Int) - (2 + ((S k).size : Int)) = (at' S (k + 1) : Nat)
        unfold at'; omega
      have HI : Hid (12 + 2 * (k : Int) = ((12 + 2 * k : Nat) : Int)) := (by omega : 12 + 2 * (k : Int) = ((12 + 2 * k : Nat) : Int))
      clear l1 l2
      clear hcells HB2 HP2 r2
      go_wp2_with fail
      rw [HA.out, HI.out]
      refine (cputTwo _ (12 + 2 * k) (at' S (k + 1)) _ _ HP.out (by omega)).mono ?_
      rintro e W1 ⟨rfl, P1, B1⟩
      have HB1 : Hid (Below w.heap.size w W1) := HB.out.trans (B1 _ (Nat.le_succ _))
      have HP1 : Hid _ := P1
      clear P1 B1 HB HP
      go_wp2_with fail
      refine (cputTwo _ (at' S (k + 1)) (S k).size _ _ HP1.out (by omega)).mono ?_
      rintro e W2 ⟨rfl, P2, B2⟩
      have HB2 : Hid (Below w.heap.size w W2) := HB1.out.trans (B2 _ (Nat.le_succ _))
      have HP2 : Hid _ := P2
      clear P2 B2 HB1 HP1
      by_cases hz : at' S (k + 1) = 1022
      · have HZ0 : Hid ((S k).size = 0) := (by omega : (S k).size = 0)
        have hcp := copy0 W2 (some ⟨w.heap.size + 1, 0, none⟩) 0 0 (S k) HZ0.out
        have HP3 : Hid (Pg W2 (w.heap.size + 1) (lay S (head K Lk n) (k + 1))) := by
          show Pg W2 (w.heap.size + 1) (spl _ _ (S k))
          rw [spl_nil _ _ _ HZ0.out]
          exact HP2.out
        go_wp2
        go_roundw
        case rel => exact ⟨k + 1, by go_num, by simp [hz], by omega, HP3, HB2⟩
        case measure => simp [intOf]; omega
      · have hz1 : at' S (k + 1) < 1022 := by omega
        obtain ⟨W3, hcp, P3, B3⟩ := Pg.copy HP2.out (at' S (k + 1) + 2) (1022 - at' S (k + 1)) (1022 - at' S (k + 1)) (S k) (by omega) a4
        have HB3 : Hid (Below w.heap.size w W3) := HB2.out.trans (B3 _ (Nat.le_succ _))
        have HP3 : Hid (Pg W3 (w.heap.size + 1) (lay S (head K Lk n) (k + 1))) := P3
        clear P3 B3 HB2 HP2
        go_wp2
        go_roundw
        case rel => exact ⟨k + 1, by go_num, rfl, by omega, HP3, HB3⟩
        case measure => simp [intOf]; omega
    · obtain rfl : k = n := by omega
      have hcv := HP.out.text 4
      go_wp2_with fail
      refine (csum _ _ ?_).mono ?_
      · show (List.drop 4 (lay S (head K Lk k) k)).toArray.size ≤ 4096
        have := HP.out.1
        simp [this]
      rintro e W1 ⟨rfl, rfl⟩
      have HC := crc_lt ⟨(List.drop 4 (lay S (head K Lk k) k)).toArray⟩
      go_wp2_with fail
      refine (cputFour _ 0 (crc ⟨(List.drop 4 (lay S (head K Lk k) k)).toArray⟩) _ _ HP.out (by omega)).mono ?_
      rintro e W2 ⟨rfl, P2, B2⟩
      have hcv2 := P2.text 0
      have HB3 : Hid (Below w.heap.size w W2) := HB.out.trans (B2 _ (Nat.le_succ _))
      clear P2 B2 hcv
      go_wp2_with fail
      go_ret2
      exact ⟨rfl, HB3.out⟩

set_option maxHeartbeats 1000000 in
theorem cseal_room (K Lk : Nat) (a : Option Addr) (n cap : Nat) (S : Nat → ByteArray) (w : World) (h : StA w a n S) (hK : 1 ≤ K ∧ K ≤ 5) (hL : Lk ≤ 2147483647) (hn : 1012 < 4 * n + len S n) (hn' : 4 * n + len S n ≤ 1099511627776) :
    Calls Try.prog 26 #[.agg #[.int .i64 K, .int .i64 Lk, .slice a n cap]] w fun e w' => e = .returned (.tuple #[.string ⟨#[]⟩, .int .i64 5]) ∧ Below w.heap.size w w' := by
  have HS : Hid (∀ W, Below w.heap.size w W → StA W a n S) := fun W hb => h.below hb
  clear h
  have k1 : ((K : Int) < 1) = False := by simp <;> omega
  have k2 : ((5 : Int) < K) = False := by simp <;> omega
  have k3 : ((Lk : Int) < 0) = False := by simp <;> omega
  have k4 : ((2147483647 : Int) < Lk) = False := by simp <;> omega
  go_enter Try.func26, Try.ntmps26
  go_wp2_with fail
  refine (cused a n cap S _ (HS.out _ ((Below.refl _ _).alloc (Nat.le_refl _) _)) hn').mono ?_
  rintro e w1 ⟨rfl, rfl⟩
  have hu : (1012 : Int) < 4 * (n : Int) + (len S n : Int) := by omega
  go_wp2_with fail
  go_ret2
  exact ⟨rfl, ((Below.refl _ _).alloc (Nat.le_refl _) _)⟩

set_option maxHeartbeats 1000000 in
theorem cseal_arg1 (K Lk : Int) (v : Value) (w : World) (h1 : K < 1) (hv : ∃ a n cap, v = .slice a n cap) :
    Calls Try.prog 26 #[.agg #[.int .i64 K, .int .i64 Lk, v]] w fun e w' => e = .returned (.tuple #[.string ⟨#[]⟩, .int .i64 1]) ∧ Below w.heap.size w w' := by
  obtain ⟨a, n, cap, rfl⟩ := hv
  go_enter Try.func26, Try.ntmps26
  go_wp2_with fail
  go_ret2
  exact ⟨rfl, ((Below.refl _ _).alloc (Nat.le_refl _) _)⟩

set_option maxHeartbeats 1000000 in
theorem cseal_arg2 (K Lk : Int) (v : Value) (w : World) (h1 : 1 ≤ K) (h2 : 5 < K) (hv : ∃ a n cap, v = .slice a n cap) :
    Calls Try.prog 26 #[.agg #[.int .i64 K, .int .i64 Lk, v]] w fun e w' => e = .returned (.tuple #[.string ⟨#[]⟩, .int .i64 1]) ∧ Below w.heap.size w w' := by
  obtain ⟨a, n, cap, rfl⟩ := hv
  go_enter Try.func26, Try.ntmps26
  go_wp2_with fail
  go_ret2
  exact ⟨rfl, ((Below.refl _ _).alloc (Nat.le_refl _) _)⟩

set_option maxHeartbeats 1000000 in
theorem cseal_arg3 (K Lk : Int) (v : Value) (w : World) (h1 : 1 ≤ K) (h2 : K ≤ 5) (h3 : Lk < 0) (hv : ∃ a n cap, v = .slice a n cap) :
    Calls Try.prog 26 #[.agg #[.int .i64 K, .int .i64 Lk, v]] w fun e w' => e = .returned (.tuple #[.string ⟨#[]⟩, .int .i64 1]) ∧ Below w.heap.size w w' := by
  obtain ⟨a, n, cap, rfl⟩ := hv
  go_enter Try.func26, Try.ntmps26
  go_wp2_with fail
  go_ret2
  exact ⟨rfl, ((Below.refl _ _).alloc (Nat.le_refl _) _)⟩

set_option maxHeartbeats 1000000 in
theorem cseal_arg4 (K Lk : Int) (v : Value) (w : World) (h1 : 1 ≤ K) (h2 : K ≤ 5) (h3 : 0 ≤ Lk) (h4 : 2147483647 < Lk) (hv : ∃ a n cap, v = .slice a n cap) :
    Calls Try.prog 26 #[.agg #[.int .i64 K, .int .i64 Lk, v]] w fun e w' => e = .returned (.tuple #[.string ⟨#[]⟩, .int .i64 1]) ∧ Below w.heap.size w w' := by
  obtain ⟨a, n, cap, rfl⟩ := hv
  go_enter Try.func26, Try.ntmps26
  go_wp2_with fail
  go_ret2
  exact ⟨rfl, ((Below.refl _ _).alloc (Nat.le_refl _) _)⟩

/- Seal, whatever it is given -/
theorem cseal (K Lk : Int) (a : Option Addr) (n cap : Nat) (S : Nat → ByteArray) (w : World) (h : StA w a n S) (hn : 4 * n + len S n ≤ 1099511627776) :
    Calls Try.prog 26 #[.agg #[.int .i64 K, .int .i64 Lk, .slice a n cap]] w fun e w' =>
      ((e = .returned (.tuple #[.string ⟨#[]⟩, .int .i64 1]) ∧ ¬ (1 ≤ K ∧ K ≤ 5 ∧ 0 ≤ Lk ∧ Lk ≤ 2147483647)) ∨
       (e = .returned (.tuple #[.string ⟨#[]⟩, .int .i64 5]) ∧ (1 ≤ K ∧ K ≤ 5 ∧ 0 ≤ Lk ∧ Lk ≤ 2147483647) ∧ 1012 < 4 * n + len S n) ∨
       (e = .returned (.tuple #[.string ⟨(sealed K.toNat Lk.toNat n S).toArray⟩, .int .i64 0]) ∧ (1 ≤ K ∧ K ≤ 5 ∧ 0 ≤ Lk ∧ Lk ≤ 2147483647) ∧ 4 * n + len S n ≤ 1012)) ∧ Below w.heap.size w w' := by
  have hv : ∃ a' n' cap', Value.slice a n cap = .slice a' n' cap' := ⟨_, _, _, rfl⟩
  by_cases h1 : K < 1
  · exact (cseal_arg1 K Lk _ w h1 hv).mono fun e w' ⟨h, hb⟩ => ⟨.inl ⟨h, by omega⟩, hb⟩
  by_cases h2 : 5 < K
  · exact (cseal_arg2 K Lk _ w (by omega) h2 hv).mono fun e w' ⟨h, hb⟩ => ⟨.inl ⟨h, by omega⟩, hb⟩
  by_cases h3 : Lk < 0
  · exact (cseal_arg3 K Lk _ w (by omega) (by omega) h3 hv).mono fun e w' ⟨h, hb⟩ => ⟨.inl ⟨h, by omega⟩, hb⟩
  by_cases h4 : 2147483647 < Lk
  · exact (cseal_arg4 K Lk _ w (by omega) (by omega) (by omega) h4 hv).mono fun e w' ⟨h, hb⟩ => ⟨.inl ⟨h, by omega⟩, hb⟩
  obtain ⟨k, rfl⟩ := Int.eq_ofNat_of_zero_le (show 0 ≤ K by omega)
  obtain ⟨lk, rfl⟩ := Int.eq_ofNat_of_zero_le (show 0 ≤ Lk by omega)
  by_cases h5 : 4 * n + len S n ≤ 1012
  · exact (cseal_ok k lk a n cap S w h (by omega) (by omega) h5).mono fun e w' ⟨h, hb⟩ => ⟨.inr (.inr ⟨h, by omega, h5⟩), hb⟩
  · exact (cseal_room k lk a n cap S w h (by omega) (by omega) (by omega) hn).mono fun e w' ⟨h, hb⟩ => ⟨.inr (.inl ⟨h, by omega, by omega⟩), hb⟩
end Go.Proofs.Ythimnpobcfkghaa
