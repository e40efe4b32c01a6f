/- The contract of value.matches: it answers whether the text is as the pattern says. -/
import Derived.Test.YtmkfkjicfmllmaaDoorLike0
import Derived.Test.YtmkfkjicfmllmaaDoorLess
import Derived.Deep.QuietTactic
import Derived.BigQuiet
namespace Go.Proofs.YtmkfkjicfmllmaaDoor
open Go.RowKit
attribute [local go_sem ↓] Go.wp_at_zero Go.wp_at_succ

def L (s : ByteArray) : List UInt8 := s.data.toList
theorem L_len (s : ByteArray) : (L s).length = s.size := by simp [L]
theorem L_get (s : ByteArray) (k : Nat) (h : k < s.size) : (L s)[k]'(by rw [L_len]; exact h) = s[k] := rfl
theorem byte_eq (c d : UInt8) : (((c.toNat : Int) == (d.toNat : Int)) = true) ↔ c = d := by
  simp only [beq_iff_eq]
  constructor
  · intro h; exact UInt8.toNat_inj.1 (by omega)
  · intro h; rw [h]
theorem byte37 (c : UInt8) : (((c.toNat : Int) == 37) = true) ↔ c = 37 := by
  simp only [beq_iff_eq]
  constructor
  · intro h; apply UInt8.toNat_inj.1; show c.toNat = 37; omega
  · intro h; subst h; rfl
theorem byte95 (c : UInt8) : (((c.toNat : Int) == 95) = true) ↔ c = 95 := by
  simp only [beq_iff_eq]
  constructor
  · intro h; apply UInt8.toNat_inj.1; show c.toNat = 95; omega
  · intro h; subst h; rfl
theorem bfalse {b : Bool} {P : Prop} (h : b = true ↔ P) (hn : ¬ P) : b = false := by
  cases b with
  | false => rfl
  | true => exact absurd (h.1 rfl) hn

/- the state of the search -/
def St (s p : ByteArray) (w : World) (x y u v : Value) (X : World) : Prop :=
  ∃ a k : Nat, x = .int .i64 a ∧ y = .int .i64 k ∧ a ≤ s.size ∧ k ≤ p.size ∧ (∃ nq, X = w.drewN nq) ∧
    ((u = .int .i64 (-1) ∧ v = .int .i64 0 ∧ S0 (L p) (L s) k a) ∨ ∃ l t : Nat, u = .int .i64 l ∧ v = .int .i64 t ∧ S1 (L p) (L s) k a l t ∧ l < k ∧ t ≤ a)

theorem stOne {s p : ByteArray} {u v : Value} {a k : Nat} (h : (u = .int .i64 (-1) ∧ v = .int .i64 0 ∧ S0 (L p) (L s) k a) ∨ ∃ l t : Nat, u = .int .i64 l ∧ v = .int .i64 t ∧ S1 (L p) (L s) k a l t ∧ l < k ∧ t ≤ a)
    (hk : k < (L p).length) (hc : ¬ (L p)[k] = 37) (ha : a < (L s).length) (hm : (L p)[k] = 95 ∨ (L p)[k] = (L s)[a]) :
    (u = .int .i64 (-1) ∧ v = .int .i64 0 ∧ S0 (L p) (L s) (k + 1) (a + 1)) ∨ ∃ l t : Nat, u = .int .i64 l ∧ v = .int .i64 t ∧ S1 (L p) (L s) (k + 1) (a + 1) l t ∧ l < k + 1 ∧ t ≤ a + 1 := by
  rcases h with ⟨e, e', q⟩ | ⟨l, t, e, e', q, hl, hta⟩
  · exact Or.inl ⟨e, e', S0_one q hk hc ha hm⟩
  · exact Or.inr ⟨l, t, e, e', S1_one q hk hc ha hm, by omega, by omega⟩

set_option maxHeartbeats 4000000 in
theorem vmatches (s p : ByteArray) (w : World) (hs : s.size ≤ 562949953421312) (hp : p.size ≤ 562949953421312) :
    Calls Tryd.prog 17 #[.string s, .string p] w fun e w' => ∃ b : Bool, e = .returned (.bool b) ∧ (b = true ↔ M (L p) (L s)) ∧ ∃ nq, w' = w.drewN nq := by
  go_enter Tryd.func17, Tryd.ntmps17
  go_wp2
  go_loopw [5, 6, 7, 8] (fun x y u v X => St s p w x y u v X) (fun x _ u v _ => left s.size (p.size - (intOf u + 1).toNat) (s.size - (intOf v).toNat) (s.size - (intOf x).toNat))
  case atStart => exact ⟨0, 0, rfl, rfl, Nat.zero_le _, Nat.zero_le _, ⟨0, rfl⟩, Or.inl ⟨rfl, rfl, Iff.rfl⟩⟩
  case round =>
    obtain ⟨a, k, rfl, rfl, ha, hk, ⟨nq, rfl⟩, hst⟩ := hrel
    by_cases h1 : a < s.size
    · have la : a < (L s).length := by rw [L_len]; exact h1
      by_cases h2 : k < p.size
      · have lp : k < (L p).length := by rw [L_len]; exact h2
        by_cases h3 : (p[k]'h2) = 37
        · have b3 : (((p[k]'h2).toNat : Int) == 37) = true := (byte37 (p[k]'h2)).2 h3
          have H3 : Hid ((L p)[k] = 37) := h3
          have Hst : Hid _ := hst
          clear hst h3
          go_wp2
          go_roundw
          case rel =>
            refine ⟨a, k + 1, rfl, by go_num, by omega, by omega, ⟨_, rfl⟩, Or.inr ⟨k, a, rfl, rfl, ?_, by omega, Nat.le_refl _⟩⟩
            rcases Hst.out with ⟨_, _, q⟩ | ⟨l, t, _, _, q, _, _⟩
            · exact S0_star q lp H3.out
            · exact S1_star q lp H3.out
          case measure =>
            rcases Hst.out with ⟨rfl, rfl, _⟩ | ⟨l, t, rfl, rfl, _, hl, _⟩
            · exact left_a (by simp [intOf]; omega) (by simp [intOf]) (by simp [intOf])
            · exact left_a (by simp [intOf]; omega) (by simp [intOf]) (by simp [intOf])
        · have b3 : (((p[k]'h2).toNat : Int) == 37) = false := bfalse (byte37 (p[k]'h2)) h3
          have H3 : Hid (¬ (L p)[k] = 37) := h3
          clear h3
          by_cases h4 : (p[k]'h2) = 95
          · have b4 : (((p[k]'h2).toNat : Int) == 95) = true := (byte95 (p[k]'h2)).2 h4
            have HM : Hid ((L p)[k] = 95 ∨ (L p)[k] = (L s)[a]) := Or.inl h4
            have H1 : Hid _ := stOne hst lp H3.out la HM.out
            clear hst h4
            go_wp2_with fail
            refine wp_region_quiet_lit (by kernel_rfl) (by kernel_rfl) ?_; (repeat (first | go_big_quiet_step (fail) | (rw [b4]) | (rw [b5]))); refine wpQuiet_nil ?_; intro _ hw'; obtain ⟨nr, hw''⟩ := hw'; subst hw''
            go_wp2
            go_roundw
            case rel => exact ⟨a + 1, k + 1, by go_num, by go_num, by omega, by omega, ⟨_, rfl⟩, H1.out⟩
            case measure => exact left_c (by simp [intOf]; omega)
          · have b4 : (((p[k]'h2).toNat : Int) == 95) = false := bfalse (byte95 (p[k]'h2)) h4
            by_cases h5 : (p[k]'h2) = (s[a]'h1)
            · have b5 : (((p[k]'h2).toNat : Int) == ((s[a]'h1).toNat : Int)) = true := (byte_eq (p[k]'h2) (s[a]'h1)).2 h5
              have HM : Hid ((L p)[k] = 95 ∨ (L p)[k] = (L s)[a]) := Or.inr h5
              have H1 : Hid _ := stOne hst lp H3.out la HM.out
              clear hst h4 h5
              go_wp2_with fail
              refine wp_region_quiet_lit (by kernel_rfl) (by kernel_rfl) ?_; (repeat (first | go_big_quiet_step (fail) | (rw [b4]) | (rw [b5]))); refine wpQuiet_nil ?_; intro _ hw'; obtain ⟨nr, hw''⟩ := hw'; subst hw''
              go_wp2
              go_roundw
              case rel => exact ⟨a + 1, k + 1, by go_num, by go_num, by omega, by omega, ⟨_, rfl⟩, H1.out⟩
              case measure => exact left_c (by simp [intOf]; omega)
            · have b5 : (((p[k]'h2).toNat : Int) == ((s[a]'h1).toNat : Int)) = false := bfalse (byte_eq (p[k]'h2) (s[a]'h1)) h5
              have HN : Hid (¬ M ((L p).drop k) ((L s).drop a)) := no_one lp H3.out la (fun h => h.elim h4 h5)
              clear h4 h5 H3
              rcases hst with ⟨rfl, rfl, q⟩ | ⟨l, t, rfl, rfl, q, hl, hta⟩
              · have HR : Hid (¬ M (L p) (L s)) := fun h => HN.out (q.1 h)
                clear q
                go_wp2_with fail
                refine wp_region_quiet_lit (by kernel_rfl) (by kernel_rfl) ?_; (repeat (first | go_big_quiet_step (fail) | (rw [b4]) | (rw [b5]))); refine wpQuiet_nil ?_; intro _ hw'; obtain ⟨nr, hw''⟩ := hw'; subst hw''
                go_wp2
                go_ret
                exact ⟨false, rfl, ⟨fun h => (by cases h), fun h => absurd h HR.out⟩, _, rfl⟩
              · have HS : Hid _ := S1_back q HN.out
                clear q
                go_wp2_with fail
                refine wp_region_quiet_lit (by kernel_rfl) (by kernel_rfl) ?_; (repeat (first | go_big_quiet_step (fail) | (rw [b4]) | (rw [b5]))); refine wpQuiet_nil ?_; intro _ hw'; obtain ⟨nr, hw''⟩ := hw'; subst hw''
                go_wp2
                go_roundw
                case rel => exact ⟨t + 1, l + 1, by go_num, by go_num, by omega, by omega, ⟨_, rfl⟩, Or.inr ⟨l, t + 1, rfl, by go_num, HS.out, by omega, by omega⟩⟩
                case measure => exact left_b (by simp [intOf]; omega) (by simp [intOf])
      · have HN : Hid (¬ M ((L p).drop k) ((L s).drop a)) := no_more (by rw [L_len]; omega) la
        have hd : decide ((k : Int) < (p.size : Int)) = false := by simpa using h2
        rcases hst with ⟨rfl, rfl, q⟩ | ⟨l, t, rfl, rfl, q, hl, hta⟩
        · have HR : Hid (¬ M (L p) (L s)) := fun h => HN.out (q.1 h)
          clear q
          go_wp2_with fail
          refine wp_region_quiet_lit (by kernel_rfl) (by kernel_rfl) ?_; (repeat (first | go_big_quiet_step (fail) | (rw [b4]) | (rw [b5]))); refine wpQuiet_nil ?_; intro _ hw'; obtain ⟨nr, hw''⟩ := hw'; subst hw''
          go_wp2
          go_ret
          exact ⟨false, rfl, ⟨fun h => (by cases h), fun h => absurd h HR.out⟩, _, rfl⟩
        · have HS : Hid _ := S1_back q HN.out
          clear q
          go_wp2_with fail
          refine wp_region_quiet_lit (by kernel_rfl) (by kernel_rfl) ?_; (repeat (first | go_big_quiet_step (fail) | (rw [b4]) | (rw [b5]))); refine wpQuiet_nil ?_; intro _ hw'; obtain ⟨nr, hw''⟩ := hw'; subst hw''
          go_wp2
          go_roundw
          case rel => exact ⟨t + 1, l + 1, by go_num, by go_num, by omega, by omega, ⟨_, rfl⟩, Or.inr ⟨l, t + 1, rfl, by go_num, HS.out, by omega, by omega⟩⟩
          case measure => exact left_b (by simp [intOf]; omega) (by simp [intOf])
    · have HE : Hid (M (L p) (L s) ↔ M ((L p).drop k) []) := by
        rcases hst with ⟨_, _, q⟩ | ⟨l, t, _, _, q, _, _⟩
        · exact S0_end q (by rw [L_len]; omega)
        · exact S1_end q (by rw [L_len]; omega)
      clear hst
      go_wp2
      go_loop [6] (fun y => ∃ j : Nat, y = .int .i64 j ∧ j ≤ p.size ∧ Hid (M (L p) (L s) ↔ M ((L p).drop j) [])) (fun y => p.size - (intOf y).toNat)
      case atStart => exact ⟨k, rfl, hk, HE⟩
      case round =>
        clear HE h1 ha hk
        obtain ⟨j, rfl, hj, HJ⟩ := hrel
        by_cases g2 : j < p.size
        · have lp : j < (L p).length := by rw [L_len]; exact g2
          by_cases g3 : (p[j]'g2) = 37
          · have b3 : (((p[j]'g2).toNat : Int) == 37) = true := (byte37 _).2 g3
            have HK : Hid (M (L p) (L s) ↔ M ((L p).drop (j + 1)) []) := HJ.out.trans (tail_star lp g3)
            clear g3 HJ
            go_wp2
            go_round
            case rel => exact ⟨j + 1, by go_num, by omega, HK⟩
            case measure => simp [intOf]; omega
          · have b3 : (((p[j]'g2).toNat : Int) == 37) = false := bfalse (byte37 _) g3
            have HK : Hid (¬ M (L p) (L s)) := fun h => tail_no lp g3 (HJ.out.1 h)
            have hne : ((j : Int) == (p.size : Int)) = false := by simp; omega
            clear g3 HJ
            go_wp2
            go_ret
            exact Or.inl ⟨rfl, HK.out, _, rfl⟩
        · have hje : j = p.size := by omega
          have HK : Hid (M (L p) (L s)) := HJ.out.2 (tail_end (by rw [L_len]; omega))
          clear HJ
          subst hje
          go_wp2
          go_ret
          exact Or.inr ⟨rfl, HK.out, _, rfl⟩
end Go.Proofs.YtmkfkjicfmllmaaDoor
