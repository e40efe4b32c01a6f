/- relstorekeep's pick and sheet -/
import Derived.Test.YtfjkockcgddgbaaWal1
namespace Go.Proofs.Ytfjkockcgddgbaa
open Go.RowKit Go.Lib
attribute [local go_sem ↓] Go.wp_at_zero Go.wp_at_succ
def pickI (c n : Int) : Int := (if c < 0 then -(c + 1) else c) % n
theorem pickI_in (c : Int) {n : Int} (hn : 0 < n) : 0 ≤ pickI c n ∧ pickI c n < n := ⟨Int.emod_nonneg _ (by omega), Int.emod_lt_of_pos _ hn⟩
set_option maxRecDepth 20000 in
set_option maxHeartbeats 1000000 in
theorem cpick (c n : Int) (w : World) (hc : -9223372036854775808 ≤ c ∧ c ≤ 9223372036854775807) (hn : 0 < n ∧ n ≤ 1000) : Calls Try.prog 12 #[.int .i64 c, .int .i64 n] w fun e w' => e = .returned (.int .i64 (pickI c n)) ∧ w' = w := by
  unfold pickI
  by_cases h : c < 0
  · rw [if_pos h]
    have t2 : -((c + 1).tmod n) = (-(c + 1)) % n := by rw [← Int.neg_tmod, Int.tmod_eq_emod_of_nonneg (by omega)]
    have T2 : Hid _ := t2
    clear t2
    go_enter Try.func12, Try.ntmps12
    go_wp2
    go_ret
    exact ⟨congrArg (fun z => Ending.returned (.int .i64 z)) T2.out, rfl⟩
  · rw [if_neg h]
    have t1 : c.tmod n = c % n := Int.tmod_eq_emod_of_nonneg (by omega)
    go_enter Try.func12, Try.ntmps12
    go_wp2
    go_ret
    exact ⟨rfl, rfl⟩
/- a page's bytes in a block of their own -/
def Pg (W : World) (g : Nat) (l : List UInt8) : Prop := l.length = 1024 ∧ W.heap[g]? = some (.cells (valsB l).toArray 5 (0, 0))
def blank : List UInt8 := List.replicate 1024 0
theorem blank_len : blank.length = 1024 := by unfold blank; exact List.length_replicate
theorem blank_cells : valsB blank = List.replicate 1024 (.int .u8 0) := by unfold valsB blank; rw [List.map_replicate]; rfl
theorem makeB (w : World) : (Instr.makeSlice 56 (.int .i64 1024) (.int .i64 1024)).run Try.prog w = .ok (.slice (some ⟨w.heap.size, 0, none⟩) 1024 1024) (w.alloc (.cells (valsB blank).toArray 5)) := by
  have hI : (Try.prog.info? 5).map (fun i => (i.zero, i.size, i.bytes)) = some (some (.int .u8 0), 1, 1) := by kernel_rfl
  obtain ⟨i0, hi, hz0, hz1, hz2⟩ := info_parts hI
  rw [run_make w 56 5 i0 (.int .u8 0) Try.underlying56 hi hz0 .i64 .i64 1024 1024 (by decide) (by decide) (by rw [hz2]; decide) (by decide), hz1]
  have e : madeCells (Value.int IntKind.u8 0).cells ((1024 : Int).toNat * 1) = (valsB blank).toArray := by
    apply Array.ext'
    show (madeCells #[.int .u8 0] 1024).toList = valsB blank
    rw [toList_madeCells_one, blank_cells]
  rw [e]
  rfl
theorem Pg.cell {W : World} {g : Nat} {l : List UInt8} (h : Pg W g l) {i : Nat} (hi : i < 1024) : W.cell? ⟨g, i, none⟩ = some (.int .u8 ((l[i]'(by rw [h.1]; exact hi)).toNat)) ∧ W.frozen? ⟨g, i, none⟩ = false := by
  have hl := h.1
  constructor
  · simp [World.cell?, h.2, valsB, hl, hi]
  · simp [World.frozen?, h.2]
theorem Pg.set {W : World} {g : Nat} {l : List UInt8} (h : Pg W g l) (i : Nat) (x : UInt8) : Pg (W.setCell ⟨g, i, none⟩ (.int .u8 x.toNat)) g (l.set i x) := by
  refine ⟨by rw [List.length_set]; exact h.1, ?_⟩
  rw [set_blk h.2]
  congr 2
  simp [valsB]
theorem Pg.text {W : World} {g : Nat} {l : List UInt8} (h : Pg W g l) : (convert 56 9 (.slice (some ⟨g, 0, none⟩) 1024 1024)).run Try.prog W = .ok (.string ⟨l.toArray⟩) W := by
  have := run_convert_bytes_back (P := Try.prog) W 56 9 5 ⟨g, 0, none⟩ 1024 l Try.underlying56 Try.underlying5 Try.underlying9 (fun j hj => by
    rw [Addr.add_lit]
    simp [World.cell?, h.2, valsB, hj])
  rw [h.1] at this
  exact this
def shX (n : Int) (i : Nat) : UInt8 := UInt8.ofNat ((n * (((i / 100 : Nat) : Int) + 1)) % 256).toNat
theorem sh_eq (n : Int) (i : Nat) : wrap64 (n * ((i : Int) / 100 + 1)) % 256 = ((shX n i).toNat : Int) := by
  unfold shX wrap64
  rw [show ((i / 100 : Nat) : Int) = (i : Int) / 100 by omega]
  generalize n * ((i : Int) / 100 + 1) = z
  rw [UInt8.toNat_ofNat']
  omega
def shL (n : Int) (i : Nat) : List UInt8 := (List.range i).map (shX n) ++ List.replicate (1024 - i) 0
def shB (n : Int) : ByteArray := ⟨(shL n 1024).toArray⟩
theorem shL_len (n : Int) {i : Nat} (h : i ≤ 1024) : (shL n i).length = 1024 := by unfold shL; simp; omega
theorem shB_size (n : Int) : (shB n).size = 1024 := shL_len n (Nat.le_refl _)
theorem shL_zero (n : Int) : shL n 0 = blank := rfl
theorem shL_succ (n : Int) {i : Nat} (h : i < 1024) : (shL n i).set i (shX n i) = shL n (i + 1) := by
  unfold shL
  rw [List.range_succ, List.map_append, List.set_append, if_neg (by simp), List.append_assoc]
  congr 1
  rw [show 1024 - i = (1024 - (i + 1)) + 1 by omega, List.replicate_succ]
  simp
set_option maxRecDepth 20000 in
set_option maxHeartbeats 1000000 in
theorem csheet (n : Int) (w : World) : Calls Try.prog 14 #[.int .i64 n] w fun e w' => e = .returned (.string (shB n)) ∧ Below w.heap.size w w' := by
  have hm := makeB w
  have HZ : Hid (Pg (w.alloc (.cells (valsB blank).toArray 5)) w.heap.size blank) := ⟨blank_len, heap_alloc_new w _⟩
  have HB0 : Hid (Below w.heap.size w (w.alloc (.cells (valsB blank).toArray 5))) := (Below.refl _ _).alloc (Nat.le_refl _) _
  go_enter Try.func14, Try.ntmps14
  go_wp2_with fail
  generalize w.alloc (.cells (valsB blank).toArray 5) = W0 at *
  go_loopw [8] (fun u Y => ∃ i : Nat, u = .int .i64 i ∧ i ≤ 1024 ∧ Hid (Pg Y w.heap.size (shL n i)) ∧ Hid (Below w.heap.size w Y)) (fun u _ => 1024 - (intOf u).toNat)
  case atStart => exact ⟨0, rfl, Nat.zero_le _, by rw [shL_zero]; exact HZ.out, HB0⟩
  case round =>
    obtain ⟨i, rfl, hi, HP, HB⟩ := hrel
    by_cases hlt : i < 1024
    · have k1 : (i : Int) < 1024 := by omega
      obtain ⟨c0, f0⟩ := HP.out.cell hlt
      have HP2 : Hid (Pg (wr.setCell ⟨w.heap.size, i, none⟩ (.int .u8 (shX n i).toNat)) w.heap.size (shL n (i + 1))) := by
        show Pg _ _ _
        rw [← shL_succ n hlt]
        exact HP.out.set i _
      have HE : Hid (wrap64 (n * ((i : Int) / 100 + 1)) % 256 = ((shX n i).toNat : Int)) := sh_eq n i
      go_wp2
      rw [HE.out]
      go_roundw
      case rel => exact ⟨i + 1, by go_num, by omega, HP2, HB.out.setCell (p := ⟨w.heap.size, i, none⟩) (Nat.le_refl _) _⟩
      case measure => simp [intOf]; omega
    · obtain rfl : i = 1024 := by omega
      have ht := HP.out.text
      go_wp2
      go_ret
      exact ⟨rfl, HB.out⟩
end Go.Proofs.Ytfjkockcgddgbaa
