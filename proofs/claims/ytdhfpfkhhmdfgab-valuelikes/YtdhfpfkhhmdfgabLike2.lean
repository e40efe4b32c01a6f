/- The contracts of value.Like at two texts, and of relstorekeep.fits, marked, starts. -/
import Derived.Test.YtdhfpfkhhmdfgabLike1
namespace Go.Proofs.Ytdhfpfkhhmdfgab
open Go.RowKit
attribute [local go_sem ↓] Go.wp_at_zero Go.wp_at_succ

set_option maxHeartbeats 1000000 in
theorem vlike (s p : ByteArray) (w : World) (hs : s.size ≤ 562949953421312) (hp : p.size ≤ 562949953421312) :
    Calls Try.prog 42 #[(.agg #[.int .i64 (3), .int .i64 (0), .string (s)]), (.agg #[.int .i64 (3), .int .i64 (0), .string (p)])] w fun e w' => ∃ b : Bool, e = .returned (.agg #[.int .i64 (1), .int .i64 (bn b), .string (⟨#[]⟩)]) ∧ (b = true ↔ M (L p) (L s)) ∧ Below w.heap.size w w' := by
  have Hs : Hid _ := hs
  have Hp : Hid _ := hp
  clear hs hp
  go_enter Try.func42, Try.ntmps42
  go_wp2_with fail
  refine (vmatches _ _ _ Hs.out Hp.out).mono ?_
  rintro e w1 ⟨b, rfl, hb, nq, rfl⟩
  have Hb : Hid _ := hb
  clear hb
  go_wp2_with fail
  refine (vtruth _ _).mono ?_
  rintro e w2 ⟨rfl, hb2⟩
  obtain ⟨hc2, hf2⟩ := bcell hb2; have za2 : w.heap.size < w2.heap.size := (by have := hb2.size; (try simp at this); omega); have zb2 : w.heap.size + 1 < w2.heap.size := (by have := hb2.size; (try simp at this); omega); have zc2 : w.heap.size + 1 + 1 < w2.heap.size := (by have := hb2.size; (try simp at this); omega)
  go_wp2
  refine bodyPost_ret (v := (.agg #[.int .i64 (1), .int .i64 (bn b), .string (⟨#[]⟩)])) (by simp [results, Try.results42, go_sem, *]) rfl ⟨b, rfl, Hb.out, ?_⟩
  exact ((((keepBelow (below_drewN ((((Below.refl _ _).alloc (Nat.le_refl _) _).alloc (by simp) _).alloc (by simp; omega) _) _) hb2)).setCell (by simp <;> omega) _).setCell (by simp <;> omega) _).setCell (by simp <;> omega) _

set_option maxHeartbeats 1000000 in
theorem cfits (s p : ByteArray) (w : World) (hs : s.size ≤ 562949953421312) (hp : p.size ≤ 562949953421312) :
    Calls Try.prog 20 #[.string s, .string p] w fun e w' => ∃ b : Bool, e = .returned (.bool b) ∧ (b = true ↔ M (L p) (L s)) ∧ Below w.heap.size w w' := by
  have Hs : Hid _ := hs
  have Hp : Hid _ := hp
  clear hs hp
  go_enter Try.func20, Try.ntmps20
  go_wp2_with fail
  refine (vlike _ _ _ Hs.out Hp.out).mono ?_
  rintro e w1 ⟨b, rfl, hb, hb1⟩
  have Hb : Hid _ := hb
  clear hb
  cases b with
  | true =>
    rw [bn_t]
    go_wp2
    go_ret
    exact ⟨true, rfl, ⟨fun _ => Hb.out.1 (by trivial), fun _ => rfl⟩, hb1.alloc hb1.size _⟩
  | false =>
    rw [bn_f]
    go_wp2
    go_ret
    exact ⟨false, rfl, Hb.out, hb1.alloc hb1.size _⟩

set_option maxHeartbeats 1000000 in
theorem cmarked (s : ByteArray) (w : World) (hs : s.size ≤ 562949953421312) :
    Calls Try.prog 21 #[.string s] w fun e w' => ∃ b : Bool, e = .returned (.bool b) ∧ (b = false ↔ plain (L s)) ∧ w' = w := by
  go_enter Try.func21, Try.ntmps21
  go_wp2
  go_loop [3] (fun y => ∃ k : Nat, y = .int .i64 k ∧ k ≤ s.size ∧ Hid (plain ((L s).take k))) (fun y => s.size - (intOf y).toNat)
  case atStart => exact ⟨0, rfl, Nat.zero_le _, fun c h => by simp at h⟩
  case round =>
    obtain ⟨k, rfl, hk, HP⟩ := hrel
    by_cases h1 : k < s.size
    · have ls : k < (L s).length := by rw [L_len]; exact h1
      have Hm : Hid ((L s)[k] ∈ L s) := List.getElem_mem ls
      by_cases h3 : (s[k]'h1) = 37
      · have b3 : (((s[k]'h1).toNat : Int) == 37) = true := (byte37 _).2 h3
        have HN : Hid (¬ plain (L s)) := fun h => (h _ Hm.out).1 h3
        clear h3
        go_wp2
        go_ret
        first | exact ⟨true, rfl, ⟨fun h => (by cases h), fun h => absurd h HN.out⟩, rfl⟩ | exact Or.inr ⟨rfl, HN.out, rfl⟩
      · have b3 : (((s[k]'h1).toNat : Int) == 37) = false := bfalse (byte37 _) h3
        by_cases h4 : (s[k]'h1) = 95
        · have b4 : (((s[k]'h1).toNat : Int) == 95) = true := (byte95 _).2 h4
          have HN : Hid (¬ plain (L s)) := fun h => (h _ Hm.out).2 h4
          clear h3 h4
          go_wp2
          go_ret
          first | exact ⟨true, rfl, ⟨fun h => (by cases h), fun h => absurd h HN.out⟩, rfl⟩ | exact Or.inr ⟨rfl, HN.out, rfl⟩
        · have b4 : (((s[k]'h1).toNat : Int) == 95) = false := bfalse (byte95 _) h4
          have HQ : Hid (plain ((L s).take (k + 1))) := fun c hc => by
            rw [List.take_succ_eq_append_getElem ls, List.mem_append] at hc
            rcases hc with hc | hc
            · exact HP.out c hc
            · simp at hc; rw [hc]; exact ⟨h3, h4⟩
          clear h3 h4 HP
          go_wp2
          go_round
          case rel => exact ⟨k + 1, by go_num, by omega, HQ⟩
          case measure => simp [intOf]; omega
    · have HQ : Hid (plain (L s)) := by
        have := HP.out
        rwa [List.take_of_length_le (by rw [L_len]; omega)] at this
      clear HP
      go_wp2
      go_ret
      first | exact ⟨false, rfl, ⟨fun _ => HQ.out, fun _ => rfl⟩, rfl⟩ | exact Or.inl ⟨rfl, HQ.out, rfl⟩

set_option maxHeartbeats 1000000 in
theorem cstarts (s p : ByteArray) (w : World) :
    Calls Try.prog 22 #[.string s, .string p] w fun e w' => ∃ b : Bool, e = .returned (.bool b) ∧ (b = true ↔ (L s).take (L p).length = L p) ∧ w' = w := by
  by_cases h : p.size ≤ s.size
  · have hd : decide ((p.size : Int) ≤ (s.size : Int)) = true := by simpa using h
    go_enter Try.func22, Try.ntmps22
    go_wp2
    go_ret
    refine ⟨_, rfl, ?_, rfl⟩
    simp [ByteArray.toList_eq, L]
  · have hd : decide ((p.size : Int) ≤ (s.size : Int)) = false := by simpa using h
    have HN : Hid (¬ (L s).take (L p).length = L p) := fun e => by
      have := congrArg List.length e
      simp [L_len] at this
      omega
    go_enter Try.func22, Try.ntmps22
    go_wp2
    go_ret
    first | exact ⟨false, rfl, ⟨fun h => (by cases h), fun h => absurd h HN.out⟩, rfl⟩ | exact Or.inl ⟨rfl, HN.out, rfl⟩
end Go.Proofs.Ytdhfpfkhhmdfgab
