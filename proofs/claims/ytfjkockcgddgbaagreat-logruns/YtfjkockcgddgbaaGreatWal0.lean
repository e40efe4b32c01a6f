/- a disk as one state: each call's answer by one total function -/
import Derived.Test.YtfjkockcgddgbaaGreatDskA
namespace Go.Proofs.YtfjkockcgddgbaaGreat
open Go.RowKit Go.Lib
structure DS where
  lb : Nat → List UInt8
  ws : List Chg
  left : Int
  count : Int
  down : Bool
def PDs (X : World) (B D : Nat) (S : DS) : Prop := ∃ vb vw, PD X B D vb vw S.lb S.ws S.left S.count S.down
def okS (S : DS) (m : Nat) : Prop := (-9223372036854775808 ≤ S.left ∧ S.left ≤ 9223372036854775807) ∧ 0 ≤ S.count ∧ S.count ≤ m ∧ S.ws.length ≤ m
def opD (S : DS) (f at' : Int) (t : ByteArray) (c : Bool) : Int × DS :=
  if askE f at' t.size S.down = 0 then
    (if S.left = 0 then (2, { S with down := true }) else (0, ⟨updF S.lb (2 * f.toNat) (onL at'.toNat t c (S.lb (2 * f.toNat))), S.ws ++ [⟨f.toNat, at'.toNat, t, c⟩], decL S.left, S.count + 1, S.down⟩))
  else (askE f at' t.size S.down, S)
def synD (S : DS) (f : Int) : Int × DS :=
  if askE f 0 0 S.down = 0 then
    (if S.left = 0 then (2, { S with down := true }) else (0, ⟨updF S.lb (2 * f.toNat + 1) (foldF f.toNat S.ws (S.lb (2 * f.toNat + 1))), othF f.toNat S.ws, decL S.left, S.count + 1, S.down⟩))
  else (askE f 0 0 S.down, S)
theorem decL_in {l : Int} (h : -9223372036854775808 ≤ l ∧ l ≤ 9223372036854775807) : -9223372036854775808 ≤ decL l ∧ decL l ≤ 9223372036854775807 := by
  unfold decL
  split <;> omega
theorem oth_len (f : Nat) (ws : List Chg) : (othF f ws).length ≤ ws.length := List.length_filter_le ..
theorem opD_ok {S : DS} {m : Nat} (h : okS S m) (f at' : Int) (t : ByteArray) (c : Bool) : okS (opD S f at' t c).2 (m + 1) := by
  obtain ⟨h1, h2, h3, h4⟩ := h
  have h5 := decL_in h1
  unfold opD
  split
  · split
    · exact ⟨h1, h2, by show S.count ≤ ((m + 1 : Nat) : Int); omega, by show S.ws.length ≤ m + 1; omega⟩
    · refine ⟨h5, ?_, ?_, ?_⟩
      · show 0 ≤ S.count + 1; omega
      · show S.count + 1 ≤ ((m + 1 : Nat) : Int); omega
      · show (S.ws ++ [_]).length ≤ m + 1; simp; omega
  · exact ⟨h1, h2, by show S.count ≤ ((m + 1 : Nat) : Int); omega, by show S.ws.length ≤ m + 1; omega⟩
theorem synD_ok {S : DS} {m : Nat} (h : okS S m) (f : Int) : okS (synD S f).2 (m + 1) := by
  obtain ⟨h1, h2, h3, h4⟩ := h
  have h5 := decL_in h1
  have h6 := oth_len f.toNat S.ws
  unfold synD
  split
  · split
    · exact ⟨h1, h2, by show S.count ≤ ((m + 1 : Nat) : Int); omega, by show S.ws.length ≤ m + 1; omega⟩
    · refine ⟨h5, ?_, ?_, ?_⟩
      · show 0 ≤ S.count + 1; omega
      · show S.count + 1 ≤ ((m + 1 : Nat) : Int); omega
      · show (othF f.toNat S.ws).length ≤ m + 1; omega
  · exact ⟨h1, h2, by show S.count ≤ ((m + 1 : Nat) : Int); omega, by show S.ws.length ≤ m + 1; omega⟩
theorem okS.mono {S : DS} {m n : Nat} (h : okS S m) (hn : m ≤ n) : okS S n := ⟨h.1, h.2.1, by have := h.2.2.1; omega, by have := h.2.2.2; omega⟩
theorem PDs.lt {X : World} {B D : Nat} {S : DS} (h : PDs X B D S) : D < X.heap.size := by obtain ⟨vb, vw, h⟩ := h; exact h.lt
theorem PDs.low {X : World} {B D : Nat} {S : DS} (h : PDs X B D S) : B ≤ D := by obtain ⟨vb, vw, h⟩ := h; exact h.low
theorem PDs.nf {X : World} {B D : Nat} {S : DS} (h : PDs X B D S) : ¬ farT tyP X D := by obtain ⟨vb, vw, h⟩ := h; exact h.nf
theorem PDs.below {X Y : World} {B D : Nat} {S : DS} (h : PDs X B D S) (hb : Below X.heap.size X Y) : PDs Y B D S := by obtain ⟨vb, vw, h⟩ := h; exact ⟨vb, vw, h.below hb⟩
theorem op_post {f at' : Int} {t : ByteArray} {c : Bool} {X : World} {B D : Nat} {S : DS} {vb : Nat → Value} {vw : Value} {e : Ending} {w' : World} (hP : PD X B D vb vw S.lb S.ws S.left S.count S.down) (h : opPost f at' t c X B D vb vw S.lb S.ws S.left S.count S.down e w') :
    e = .returned (.int .i64 (opD S f at' t c).1) ∧ PDs w' B D (opD S f at' t c).2 ∧ BelT tyP B X w' := by
  unfold opD
  rcases h with ⟨h1, h2, rfl⟩ | ⟨h1, h2, h3, h4, h5⟩ | ⟨h1, h2, h3, ⟨f', p, v', vw', rfl, rfl, -, h4⟩, h5⟩
  · rw [if_neg h1]
    exact ⟨h2, ⟨vb, vw, hP⟩, BelT.refl _ _ _⟩
  · rw [if_pos h1, if_pos h2]
    exact ⟨h3, ⟨vb, vw, h4⟩, h5⟩
  · rw [if_pos h1, if_neg h2]
    exact ⟨h3, ⟨_, _, h4⟩, h5⟩
theorem cwriteD (f at' : Int) (t : ByteArray) (X : World) (B D : Nat) (S : DS) (m : Nat) (h : PDs X B D S) (hB : B ≤ X.heap.size) (ho : okS S m) (hm : m ≤ 1000000) :
    Calls Tryz.prog 58 #[(.pointer (some ⟨D, 0, none⟩)), .int .i64 f, .int .i64 at', .string t] X fun e w' => e = .returned (.int .i64 (opD S f at' t false).1) ∧ PDs w' B D (opD S f at' t false).2 ∧ BelT tyP B X w' := by
  obtain ⟨vb, vw, h⟩ := h
  obtain ⟨h1, h2, h3, h4⟩ := ho
  exact (cwrite f at' t X B D vb vw S.lb S.ws S.left S.count S.down h hB h1 ⟨h2, by omega⟩ (by omega)).mono fun e w' hp => op_post h hp
theorem ccutD (f at' : Int) (X : World) (B D : Nat) (S : DS) (m : Nat) (h : PDs X B D S) (hB : B ≤ X.heap.size) (ho : okS S m) (hm : m ≤ 1000000) :
    Calls Tryz.prog 87 #[(.pointer (some ⟨D, 0, none⟩)), .int .i64 f, .int .i64 at'] X fun e w' => e = .returned (.int .i64 (opD S f at' ⟨#[]⟩ true).1) ∧ PDs w' B D (opD S f at' ⟨#[]⟩ true).2 ∧ BelT tyP B X w' := by
  obtain ⟨vb, vw, h⟩ := h
  obtain ⟨h1, h2, h3, h4⟩ := ho
  exact (ccut f at' X B D vb vw S.lb S.ws S.left S.count S.down h hB h1 ⟨h2, by omega⟩ (by omega)).mono fun e w' hp => op_post h hp
theorem csyncD (f : Int) (X : World) (B D : Nat) (S : DS) (m : Nat) (h : PDs X B D S) (hB : B ≤ X.heap.size) (ho : okS S m) (hm : m ≤ 1000000) :
    Calls Tryz.prog 62 #[(.pointer (some ⟨D, 0, none⟩)), .int .i64 f] X fun e w' => e = .returned (.int .i64 (synD S f).1) ∧ PDs w' B D (synD S f).2 ∧ BelT tyP B X w' := by
  obtain ⟨vb, vw, h⟩ := h
  obtain ⟨h1, h2, h3, h4⟩ := ho
  refine (csync f X B D vb vw S.lb S.ws S.left S.count S.down h hB h1 ⟨h2, by omega⟩ (by omega)).mono fun e w' hp => ?_
  unfold synD
  rcases hp with ⟨h1, h2, rfl⟩ | ⟨h1, h2, h3, h4, h5⟩ | ⟨h1, h2, h3, ⟨f', v', vw', rfl, -, h4⟩, h5⟩
  · rw [if_neg h1]
    exact ⟨h2, ⟨vb, vw, h⟩, BelT.refl _ _ _⟩
  · rw [if_pos h1, if_pos h2]
    exact ⟨h3, ⟨vb, vw, h4⟩, h5⟩
  · rw [if_pos h1, if_neg h2]
    exact ⟨h3, ⟨_, _, h4⟩, h5⟩
theorem csizeD (f : Int) (X : World) (B D : Nat) (S : DS) (h : PDs X B D S) :
    Calls Tryz.prog 54 #[(.pointer (some ⟨D, 0, none⟩)), .int .i64 f] X fun e w' => e = .returned (.tuple #[.int .i64 (sizV f S.lb S.down), .int .i64 (askE f 0 0 S.down)]) ∧ w' = X := by
  obtain ⟨vb, vw, h⟩ := h
  exact csize f X B D vb vw S.lb S.ws S.left S.count S.down h
theorem creadD (f at' n : Int) (X : World) (B D : Nat) (S : DS) (h : PDs X B D S) :
    Calls Tryz.prog 55 #[(.pointer (some ⟨D, 0, none⟩)), .int .i64 f, .int .i64 at', .int .i64 n] X fun e w' => e = .returned (.tuple #[.string (rdS f at' n S.lb S.down), .int .i64 (rdE f at' n S.lb S.down)]) ∧ w' = X := by
  obtain ⟨vb, vw, h⟩ := h
  exact cread f at' n X B D vb vw S.lb S.ws S.left S.count S.down h
end Go.Proofs.YtfjkockcgddgbaaGreat
