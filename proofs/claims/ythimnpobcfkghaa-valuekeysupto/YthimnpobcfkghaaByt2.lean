/- value.Pack -/
import Derived.Test.YthimnpobcfkghaaByt1
import Derived.Test.YthimnpobcfkghaaRows1
namespace Go.Proofs.Ythimnpobcfkghaa
open Go.RowKit Go.Lib
attribute [local go_sem ↓] Go.wp_at_zero Go.wp_at_succ

theorem row_keep {w w' : World} {base : Nat} {e : TypeId} {size : Nat} {v : Value} {n : Nat} {xs : List Value} (h : w.ownsRow base e size v n xs) (hk : ∀ g, v.ownBlock = some g → w'.heap[g]? = w.heap[g]?) : w'.ownsRow base e size v n xs := by
  refine ⟨h.1, ?_⟩
  rcases h.2 with h | ⟨g, cap, cur, rfl, hb, hg, rest⟩
  · exact .inl h
  · exact .inr ⟨g, cap, cur, rfl, hb, (hk g rfl).trans hg, rest⟩
theorem row_below {w w' : World} {base : Nat} {e : TypeId} {size : Nat} {v : Value} {n : Nat} {xs : List Value} (h : w.ownsRow base e size v n xs) (hb : Below w.heap.size w w') : w'.ownsRow base e size v n xs :=
  row_keep h fun g hg => hb.block g (World.ownsRow.lt h g hg).2
theorem row_put3 {w : World} {base : Nat} {e : TypeId} {size : Nat} {v : Value} {n : Nat} {xs : List Value} {A : Nat} {x0 x1 x2 : Value} (h : w.ownsRow base e size v n xs) (hA : some A ≠ v.ownBlock) : (put3 w A x0 x1 x2).ownsRow base e size v n xs :=
  row_keep h fun g hg => by
    have hne : g ≠ A := fun e => hA (by rw [hg, e])
    unfold put3
    rw [Below.heap_setCell _ _ _ g hne, Below.heap_setCell _ _ _ g hne, Below.heap_setCell _ _ _ g hne]
theorem own_text {X : World} {base : Nat} {v : Value} {n : Nat} {l : List UInt8} (h : X.ownsRow base 5 1 v n (valsB l)) (hn : 0 < n) : (convert 66 9 v).run Try.prog X = .ok (.string ⟨l.toArray⟩) X := by
  have hl : l.length = n := by have := h.1; simpa [valsB] using this
  obtain ⟨g, cap, rfl, _, _⟩ := World.ownsRow.form h hn
  subst hl
  refine run_convert_bytes_back X 66 9 5 ⟨g, 0, none⟩ cap l Try.underlying66 Try.underlying5 Try.underlying9 fun j hj => ?_
  rw [Addr.add_lit, Nat.zero_add, h.cellAt j (by omega)]
  simp [valsB, List.getElem?_eq_getElem hj]
theorem own_one (w : World) (n : Nat) (hn : n < 256) : (w.alloc (.cells #[.int .u8 (n : Int)] 5)).ownsRow w.heap.size 5 1 (.slice (some ⟨w.heap.size, 0, none⟩) 1 1) 1 (valsB [UInt8.ofNat n]) := by
  have e : [Value.int .u8 (n : Int)] = valsB [UInt8.ofNat n] := by
    have := valsB_one [] n
    rw [show ((n : Int) % 256) = (n : Int) by omega] at this
    exact this
  refine ⟨rfl, .inr ⟨w.heap.size, 1, #[.int .u8 (n : Int)], rfl, Nat.le_refl _, World.alloc_heap_new w _, Nat.le_refl _, by decide, rfl, ?_⟩⟩
  rw [← e]
  rfl
def fit (K : Nat → Int) (S : Nat → ByteArray) (n : Nat) : Prop := ∀ i, i < n → (cs (K i) (S i)).size ≤ 1000
theorem pkV_len {k n : Int} {s : ByteArray} (h : (cs k s).size ≤ 1000) : (pkV k n s).length ≤ 1003 := by
  unfold pkV
  split
  · simp
  · split
    · simp [beN_len]
    · split
      · rename_i h3
        subst h3
        have e : s.data.toList.length = s.size := rfl
        have : s.size ≤ 1000 := h
        simp only [List.length_cons, e]
        omega
      · simp
theorem pkL_len {K N : Nat → Int} {S : Nat → ByteArray} : ∀ {n}, fit K S n → (pkL K N S n).length ≤ 1003 * n
  | 0, _ => by simp [pkL]
  | n + 1, h => by
    have h1 := pkL_len (N := N) (n := n) (fun i hi => h i (by omega))
    have h2 := pkV_len (n := N n) (h n (by omega))
    simp only [pkL, List.length_append]
    omega
set_option maxRecDepth 20000 in
set_option maxHeartbeats 1000000 in
theorem vpack (a : Option Addr) (n cap : Nat) (K N : Nat → Int) (S : Nat → ByteArray) (w : World) (hA : LiesA w a n K N S) (h64 : n ≤ 64) (hN : ∀ i, i < n → -9223372036854775808 ≤ N i ∧ N i ≤ 9223372036854775807) :
    Calls Try.prog 16 #[.slice a n cap] w fun e w' => ((fit K S n ∧ e = .returned (.tuple #[.string ⟨(UInt8.ofNat n :: pkL K N S n).toArray⟩, .int .i64 0])) ∨ (¬ fit K S n ∧ e = .returned (.tuple #[.string ⟨#[]⟩, .int .i64 8]))) ∧ Below w.heap.size w w' := by
  have HA : Hid (LiesA w a n K N S) := hA
  have HN : Hid (∀ i, i < n → -9223372036854775808 ≤ N i ∧ N i ≤ 9223372036854775807) := hN
  have h64' : ((n : Int) > 64) = False := by simp; omega
  clear hA hN
  go_enter Try.func16, Try.ntmps16
  go_wp2_with fail
  go_loopw [4, 16] (fun v y X => ∃ i : Nat, y = .int .i64 i ∧ i ≤ n ∧ Hid (fit K S i) ∧ Hid (X.ownsRow w.heap.size 5 1 v (1 + (pkL K N S i).length) (valsB (UInt8.ofNat n :: pkL K N S i))) ∧ Hid (Below w.heap.size w X)) (fun _ y _ => n - (intOf y).toNat)
  case atStart =>
    refine ⟨0, rfl, Nat.zero_le _, (fun i hi => absurd hi (by omega) : fit K S 0), ?_, ((Below.refl _ _).alloc (Nat.le_refl _) _)⟩
    exact own_one w n (by omega)
  case round =>
    obtain ⟨i, rfl, hi, HF, HO, HB⟩ := hrel
    by_cases hlt : i < n
    · have ki : (0 : Int) ≤ (i : Int) := by omega
      have kn : (i : Int) < (n : Int) := by omega
      obtain ⟨b, off, rfl, hl⟩ : ∃ b off, a = some ⟨b, off, none⟩ ∧ Lies wr b off n K N S := by
        rcases HA.out.below HB.out with h | h
        · omega
        · exact h
      obtain ⟨a0, a1, a2⟩ := hl i hlt
      have za := hl.lt (by omega)
      clear hl
      go_wp2_with fail
      refine (vclean _ _ _ _).mono ?_
      rintro e w1 ⟨rfl, hb1⟩
      obtain ⟨hc1, hf1⟩ := bcell hb1
      have p0 : w1.cell? ⟨wr.heap.size, 0, none⟩ = some (.int .i64 (K i)) := by rw [hc1 _ _ (by simp)]; go_simp
      have p1 : w1.cell? ⟨wr.heap.size, 1, none⟩ = some (.int .i64 (N i)) := by rw [hc1 _ _ (by simp)]; go_simp
      have p2 : w1.cell? ⟨wr.heap.size, 2, none⟩ = some (.string (S i)) := by rw [hc1 _ _ (by simp)]; go_simp
      have f0 : w1.frozen? ⟨wr.heap.size, 0, none⟩ = false := by rw [hf1 _ _ (by simp)]; go_simp
      have f1 : w1.frozen? ⟨wr.heap.size, 1, none⟩ = false := by rw [hf1 _ _ (by simp)]; go_simp
      have f2 : w1.frozen? ⟨wr.heap.size, 2, none⟩ = false := by rw [hf1 _ _ (by simp)]; go_simp
      have z1 : wr.heap.size + 1 ≤ w1.heap.size := by have := hb1.size; simpa using this
      have zb := HB.out.size
      have HB1 : Hid (Below w.heap.size w w1) := (HB.out.alloc zb _).trans (hb1.mono (by simp; omega))
      have HO1 : Hid (w1.ownsRow w.heap.size 5 1 u4 (1 + (pkL K N S i).length) (valsB (UInt8.ofNat n :: pkL K N S i))) := row_below (World.ownsRow.alloc HO.out _) hb1
      have HNe : Hid (some wr.heap.size ≠ u4.ownBlock) := row_new HO.out (Nat.le_refl _)
      clear hc1 hf1 hb1 a0 a1 a2
      by_cases hfit : (cs (K i) (S i)).size ≤ 1000
      · have hf : ¬ ((1000 : Int) < ((cs (K i) (S i)).size : Int)) := by omega
        go_wp2_with fail
        have hlen := pkL_len (N := N) HF.out
        refine (vappP w.heap.size _ _ _ (K i) (N i) (S i) _ (row_put3 HO1.out HNe.out) (by rw [put3_size]; omega) (by omega) (HN.out i hlt) hfit).mono ?_
        rintro e w2 ⟨v2, rfl, ho2, hb2⟩
        have HO2 : Hid (w2.ownsRow w.heap.size 5 1 v2 (1 + (pkL K N S (i + 1)).length) (valsB (UInt8.ofNat n :: pkL K N S (i + 1)))) := by
          have e1 : 1 + (pkL K N S (i + 1)).length = 1 + (pkL K N S i).length + (pkV (K i) (N i) (S i)).length := by
            show 1 + (pkL K N S i ++ pkV (K i) (N i) (S i)).length = _
            rw [List.length_append]; omega
          rw [e1]
          exact ho2
        have HB2 : Hid (Below w.heap.size w w2) := (put3_below HB1.out zb _ _ _).trans hb2
        have HF2 : Hid (fit K S (i + 1)) := fun j hj => by
          by_cases h : j = i
          · subst h; exact hfit
          · exact HF.out j (by omega)
        clear ho2 hb2
        go_wp2
        go_roundw
        case rel => exact ⟨i + 1, by go_num, by omega, HF2, HO2, HB2⟩
        case measure => simp [intOf]; omega
      · have hf : ((1000 : Int) < ((cs (K i) (S i)).size : Int)) := by omega
        go_wp2_with fail
        refine bodyPost_ret (v := .tuple #[.string ⟨#[]⟩, .int .i64 8]) (by simp [results, Try.results16, go_sem, *]) rfl ⟨.inr ⟨?_, rfl⟩, ?_⟩
        · exact fun h => hfit (h i hlt)
        · exact put3_below HB1.out zb _ _ _
    · obtain rfl : i = n := by omega
      have hcv := own_text HO.out (by omega)
      go_wp2_with fail
      refine bodyPost_ret (v := .tuple #[.string ⟨(UInt8.ofNat i :: pkL K N S i).toArray⟩, .int .i64 0]) (by simp [results, Try.results16, go_sem, *]) rfl ⟨.inl ⟨HF.out, rfl⟩, HB.out⟩
set_option maxHeartbeats 400000 in
theorem vpack_no (a : Option Addr) (n cap : Nat) (w : World) (h64 : ¬ n ≤ 64) :
    Calls Try.prog 16 #[.slice a n cap] w fun e w' => e = .returned (.tuple #[.string ⟨#[]⟩, .int .i64 8]) ∧ Below w.heap.size w w' := by
  have h64' : (64 : Int) < (n : Int) := by omega
  go_enter Try.func16, Try.ntmps16
  go_wp2_with fail
  exact bodyPost_ret (v := .tuple #[.string ⟨#[]⟩, .int .i64 8]) (by simp [results, Try.results16, go_sem, *]) rfl ⟨rfl, Below.refl _ _⟩
/- what Pack answers -/
def fitD (K : Nat → Int) (S : Nat → ByteArray) (n : Nat) : Decidable (fit K S n) := by unfold fit; exact inferInstance
def paS (K N : Nat → Int) (S : Nat → ByteArray) (n : Nat) : ByteArray := haveI := fitD K S n; if n ≤ 64 ∧ fit K S n then ⟨(UInt8.ofNat n :: pkL K N S n).toArray⟩ else ⟨#[]⟩
def paE (K : Nat → Int) (S : Nat → ByteArray) (n : Nat) : Int := haveI := fitD K S n; if n ≤ 64 ∧ fit K S n then 0 else 8
theorem vpackD (a : Option Addr) (n cap : Nat) (K N : Nat → Int) (S : Nat → ByteArray) (w : World) (hA : LiesA w a n K N S) (hN : ∀ i, i < n → -9223372036854775808 ≤ N i ∧ N i ≤ 9223372036854775807) :
    Calls Try.prog 16 #[.slice a n cap] w fun e w' => e = .returned (.tuple #[.string (paS K N S n), .int .i64 (paE K S n)]) ∧ Below w.heap.size w w' := by
  unfold paS paE
  by_cases h64 : n ≤ 64
  · refine (vpack a n cap K N S w hA h64 hN).mono fun e w' ⟨h, hb⟩ => ⟨?_, hb⟩
    rcases h with ⟨hf, rfl⟩ | ⟨hf, rfl⟩
    · rw [if_pos ⟨h64, hf⟩, if_pos ⟨h64, hf⟩]
    · rw [if_neg (fun h => hf h.2), if_neg (fun h => hf h.2)]
  · refine (vpack_no a n cap w h64).mono fun e w' ⟨h, hb⟩ => ⟨?_, hb⟩
    rw [if_neg (fun h => h64 h.1), if_neg (fun h => h64 h.1)]
    exact h
end Go.Proofs.Ythimnpobcfkghaa
