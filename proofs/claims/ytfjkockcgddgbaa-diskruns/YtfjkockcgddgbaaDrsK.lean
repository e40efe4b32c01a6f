/- relstorelaw.disks for any act; short; DiskRuns -/
import Derived.Test.YtfjkockcgddgbaaDrsJ
import Derived.Test.YtfjkockcgddgbaaDrsC
namespace Go.Proofs.Ytfjkockcgddgbaa
open Go.RowKit Go.Lib
attribute [local go_sem ↓] Go.wp_at_zero Go.wp_at_succ
structure ActD where
  k : Int
  f : Int
  a : Int
  n : Int
  s : ByteArray
  t : ByteArray
  kp : Option Addr
  kn : Nat
  kc : Nat
  fk : Nat → Int
  ca : Option Addr
  cn : Nat
  cc : Nat
def okAct (X : World) (B : Nat) (x : ActD) : Prop := (-9223372036854775808 ≤ x.n ∧ x.n ≤ 9223372036854775807) ∧ x.kn * 8 ≤ 140737488351232 ∧ (x.kn = 0 ∨ ∃ b off, x.kp = some ⟨b, off, none⟩ ∧ b < B ∧ ∀ j, j < x.kn → X.cell? ⟨b, off + j, none⟩ = some (.int .i64 (x.fk j)))
theorem okAct.below {X Y : World} {B : Nat} {x : ActD} (h : okAct X B x) (hb : Below B X Y) : okAct Y B x := by
  obtain ⟨h1, h2, h3⟩ := h
  refine ⟨h1, h2, ?_⟩
  rcases h3 with h3 | ⟨b, off, e, hl, hc⟩
  · exact .inl h3
  · exact .inr ⟨b, off, e, hl, fun j hj => (hb.cell (p := ⟨b, off + j, none⟩) hl).trans (hc j hj)⟩
theorem ldisks (x : ActD) (X : World) (B D R m : Nat) (hm : m ≤ 1000) (ho : okAct X B x) (h : DR X B D R m) :
    Calls Try.prog 8 #[(.pointer (some ⟨D, 0, none⟩)), (.pointer (some ⟨R, 0, none⟩)), .agg #[.int .i64 x.k, .int .i64 x.f, .int .i64 x.a, .int .i64 x.n, .string x.s, .string x.t, .slice x.kp x.kn x.kc, (.slice x.ca x.cn x.cc)]] X fun e w' => e = .returned (.bool true) ∧ DR w' B D R (m + 1) ∧ Below B X w' := by
  obtain ⟨k, f, a, n, s, t, kp, kn, kc, fk, ca, cn, cc⟩ := x
  obtain ⟨h1, h2, h3⟩ := ho
  show Calls _ _ #[_, _, .agg #[.int .i64 k, .int .i64 f, .int .i64 a, .int .i64 n, .string s, .string t, .slice kp kn kc, .slice ca cn cc]] _ _
  by_cases e1 : k = 1
  · subst e1; exact ldisks1 f a n s t _ _ X B D R m hm h
  by_cases e2 : k = 2
  · subst e2; exact ldisks2 f a n s t _ _ X B D R m hm h
  by_cases e3 : k = 3
  · subst e3; exact ldisks3 f a n s t _ _ X B D R m hm h
  by_cases e4 : k = 4
  · subst e4; exact ldisks4 f a n s t _ _ X B D R m hm h
  by_cases e5 : k = 5
  · subst e5; exact ldisks5 f a n s t _ _ X B D R m hm h
  by_cases e6 : k = 6
  · subst e6; exact ldisks6 f a n h1 s t _ _ X B D R m h
  by_cases e7 : k = 7
  · subst e7
    by_cases h0 : kn = 0
    · subst h0
      cases kp with
      | none => exact ldisks7a f a n s t _ kc X B D R m hm h
      | some ad => exact ldisks7b f a n s t _ ad kc X B D R m hm h
    · rcases h3 with h3 | ⟨b, off, e, hl, hc⟩
      · exact absurd h3 h0
      · have e : kp = some ⟨b, off, none⟩ := e
        subst e
        exact ldisks7n f a n s t _ b off kn kc fk X B D R m hm (by omega) h2 hl hc h
  exact ldisks0 k f a n e1 e2 e3 e4 e5 e6 e7 s t _ _ X B D R m h
/- a script in memory -/
def actCells (x : ActD) : List Value := [.int .i64 x.k, .int .i64 x.f, .int .i64 x.a, .int .i64 x.n, .string x.s, .string x.t, .slice x.kp x.kn x.kc, (.slice x.ca x.cn x.cc)]
def liesActs (X : World) (sa : Option Addr) (sl : Nat) (A : Nat → ActD) : Prop := sl = 0 ∨ ∃ b off, sa = some ⟨b, off, none⟩ ∧ b < X.heap.size ∧ ∀ i, i < sl → okAct X X.heap.size (A i) ∧ ∀ j, j < 8 → X.cell? ⟨b, off + (i * 8 + j), none⟩ = (actCells (A i))[j]?
set_option maxRecDepth 20000 in
set_option maxHeartbeats 1000000 in
theorem lshort (a : Option Addr) (n c : Nat) (w : World) (hn : n ≤ 140737488355328) (hc : n ≤ c) (ha : a = none → n = 0 ∧ c = 0) :
    Calls Try.prog 7 #[.slice a n c] w fun e w' => e = .returned (.slice a (min n 250) c) ∧ w' = w := by
  by_cases h : n ≤ 250
  · rw [Nat.min_eq_left h]
    have h' : (n : Int) ≤ 250 := by omega
    go_enter Try.func7, Try.ntmps7
    go_wp2_with fail
    go_ret
    exact ⟨rfl, rfl⟩
  · rw [Nat.min_eq_right (by omega)]
    have h' : ¬ (n : Int) ≤ 250 := by omega
    have h2 : (250 : Int) ≤ (c : Int) := by omega
    cases a with
    | none => have := ha rfl; omega
    | some ad =>
      clear ha
      go_enter Try.func7, Try.ntmps7
      go_wp2_with fail
      go_ret
      exact ⟨rfl, rfl⟩
end Go.Proofs.Ytfjkockcgddgbaa
