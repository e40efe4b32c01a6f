/- relstorekeep's short; New, Fail, Down, Crash of a disk as one state; what moved makes -/
import Derived.Test.YtfjkockcgddgbaaWalI
import Derived.Test.YtfjkockcgddgbaaDskA
namespace Go.Proofs.Ytfjkockcgddgbaa
open Go.RowKit Go.Lib
attribute [local go_sem ↓] Go.wp_at_zero Go.wp_at_succ
set_option maxRecDepth 20000 in
set_option maxHeartbeats 1000000 in
theorem kshort (a : Option Addr) (n c : Nat) (w : World) (hn : n ≤ 140737488355328) (hc : n ≤ c) (ha : a = none → n = 0 ∧ c = 0) :
    Calls Try.prog 13 #[.slice a n c] w fun e w' => e = .returned (.slice a (min n 250) c) ∧ w' = w := by
  by_cases h : n ≤ 250
  · rw [Nat.min_eq_left h]
    have h' : (n : Int) ≤ 250 := by omega
    go_enter Try.func13, Try.ntmps13
    go_wp2_with fail
    go_ret
    exact ⟨by show Ending.returned (Value.slice a (min (n : Int) 250).toNat c) = _; rw [show (min (n : Int) 250).toNat = n by omega], rfl⟩
  · rw [Nat.min_eq_right (by omega)]
    have h' : ¬ (n : Int) ≤ 250 := by omega
    have h2 : (250 : Int) ≤ (c : Int) := by omega
    cases a with
    | none => have := ha rfl; omega
    | some ad =>
      clear ha
      go_enter Try.func13, Try.ntmps13
      go_wp2_with fail
      go_ret
      exact ⟨by show Ending.returned (Value.slice (some ad) (min (n : Int) 250).toNat c) = _; rw [show (min (n : Int) 250).toNat = 250 by omega], rfl⟩
theorem cnewD (X : World) : Calls Try.prog 5 #[] X fun e w' => e = .returned (.pointer (some ⟨X.heap.size, 0, none⟩)) ∧ PDs w' X.heap.size X.heap.size newD ∧ Below X.heap.size X w' := by
  refine (cnew X).mono ?_
  rintro e w ⟨h1, h2, h3⟩
  exact ⟨h1, ⟨_, _, h2⟩, h3⟩
theorem cfailD (n : Int) (X : World) (B D : Nat) (S : DS) (h : PDs X B D S) : Calls Try.prog 11 #[(.pointer (some ⟨D, 0, none⟩)), .int .i64 n] X fun e w' => e = .returned (.tuple #[]) ∧ PDs w' B D { S with left := n } ∧ BelT tyP B X w' := by
  obtain ⟨vb, vw, h⟩ := h
  refine (cfail n X B D vb vw S.lb S.ws S.left S.count S.down h).mono ?_
  rintro e w ⟨h1, h2, h3⟩
  exact ⟨h1, ⟨_, _, h2⟩, h3⟩
theorem cdownD (X : World) (B D : Nat) (S : DS) (h : PDs X B D S) : Calls Try.prog 20 #[(.pointer (some ⟨D, 0, none⟩))] X fun e w' => e = .returned (.bool S.down) ∧ w' = X := by
  obtain ⟨vb, vw, h⟩ := h
  exact cdown X B D vb vw S.lb S.ws S.left S.count S.down h
/- what a crash leaves of a disk -/
def crD (fa : Nat → Int) (S : DS) : DS := ⟨cpL (crL fa S.ws S.lb S.ws.length) 2, [], -1, S.count, false⟩
theorem ccrashD (a : Option Addr) (n cap : Nat) (fk : Nat → Int) (X : World) (B D m : Nat) (S : DS) (h : PDs X B D S) (hB : B ≤ X.heap.size) (ho : okS S m) (hm : m ≤ 1000000) (hn : n ≤ 140737488355328) (hk : liesI tyP X B a n fk) :
    Calls Try.prog 21 #[(.pointer (some ⟨D, 0, none⟩)), .slice a n cap] X fun e w' => e = .returned (.tuple #[]) ∧ PDs w' B D (crD (fateI n fk) S) ∧ BelT tyP B X w' := by
  obtain ⟨vb, vw, h⟩ := h
  refine (ccrash a n cap fk X B D vb vw S.lb S.ws S.left S.count S.down h hB (Nat.le_trans ho.2.2.2 hm) hn hk).mono ?_
  rintro e w ⟨h1, ⟨vb', h2⟩, h3⟩
  exact ⟨h1, ⟨_, _, h2⟩, h3⟩
theorem onL_new (t : ByteArray) : onL 0 t false [] = ll t := by
  unfold onL fil
  simp
theorem op_up {lb : Nat → List UInt8} {ws : List Chg} {c f : Int} {t : ByteArray} (hf : f = 0 ∨ f = 1) (ht : (t.size : Int) ≤ 67108864) : opD ⟨lb, ws, -1, c, false⟩ f 0 t false = (0, ⟨updF lb (2 * f.toNat) (onL 0 t false (lb (2 * f.toNat))), ws ++ [⟨f.toNat, 0, t, false⟩], -1, c + 1, false⟩) := by
  unfold opD
  dsimp only
  rw [if_pos (ask0 hf (by omega) ht), if_neg (show ¬ (-1 : Int) = 0 by decide)]
  rfl
theorem syn_up {lb : Nat → List UInt8} {ws : List Chg} {c f : Int} (hf : f = 0 ∨ f = 1) : synD ⟨lb, ws, -1, c, false⟩ f = (0, ⟨updF lb (2 * f.toNat + 1) (foldF f.toNat ws (lb (2 * f.toNat + 1))), othF f.toNat ws, -1, c + 1, false⟩) := by
  unfold synD
  dsimp only
  rw [if_pos (ask0 hf (by omega) (by omega)), if_neg (show ¬ (-1 : Int) = 0 by decide)]
  rfl
theorem mv_two (S : DS) (hs : ∀ i < 4, (S.lb i).length ≤ 67108864) : (mv S 2).lb 0 = S.lb 0 ∧ (mv S 2).lb 1 = S.lb 0 ∧ (mv S 2).lb 2 = S.lb 2 ∧ (mv S 2).lb 3 = S.lb 2 ∧ (mv S 2).ws = [] := by
  have s0 : ((txtF S 0).size : Int) ≤ 67108864 := by show (((S.lb 0).toArray.size : Nat) : Int) ≤ _; rw [List.size_toArray]; have := hs 0 (by decide); omega
  have s1 : ((txtF S 1).size : Int) ≤ 67108864 := by show (((S.lb 2).toArray.size : Nat) : Int) ≤ _; rw [List.size_toArray]; have := hs 2 (by decide); omega
  have e1 : mv S 1 = ⟨updF (updF (fun _ => []) 0 (S.lb 0)) 1 (S.lb 0), [], -1, 2, false⟩ := by
    show (synD (opD newD 0 0 (txtF S 0) false).2 0).2 = _
    rw [show opD newD 0 0 (txtF S 0) false = opD ⟨fun _ => [], [], -1, 0, false⟩ 0 0 (txtF S 0) false from rfl, op_up (.inl rfl) s0, syn_up (.inl rfl)]
    have e : onL 0 (txtF S 0) false [] = S.lb 0 := by rw [onL_new]; rfl
    simp [foldF, othF, updF, e]
  have e2 : mv S 2 = ⟨updF (updF (updF (updF (fun _ => []) 0 (S.lb 0)) 1 (S.lb 0)) 2 (S.lb 2)) 3 (S.lb 2), [], -1, 4, false⟩ := by
    show (synD (opD (mv S 1) 1 0 (txtF S 1) false).2 1).2 = _
    rw [e1]
    rw [op_up (.inr rfl) s1, syn_up (.inr rfl)]
    have e : onL 0 (txtF S 1) false [] = S.lb 2 := by rw [onL_new]; rfl
    simp [foldF, othF, updF, e]
  rw [e2]
  simp [updF]
end Go.Proofs.Ytfjkockcgddgbaa
