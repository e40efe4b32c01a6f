/- package disk: a change done to a file's bytes -/
import Derived.Test.YtfjkockcgddgbaaZer
import Derived.Lib.BufferWrite
namespace Go.Proofs.Ytfjkockcgddgbaa
open Go.RowKit Go.Lib
attribute [local go_sem ↓] Go.wp_at_zero Go.wp_at_succ
/- bytes with zeros behind, at least n -/
def fil (l : List UInt8) (n : Nat) : List UInt8 := l ++ List.replicate (n - l.length) 0
theorem fil_len (l : List UInt8) (n : Nat) : (fil l n).length = max l.length n := by unfold fil; rw [List.length_append, List.length_replicate]; omega
theorem fil_le {l : List UInt8} {n : Nat} (h : n ≤ l.length) : fil l n = l := by unfold fil; rw [show n - l.length = 0 by omega]; simp
/- what a change makes of bytes -/
def onL (at' : Nat) (t : ByteArray) (cut : Bool) (l : List UInt8) : List UInt8 :=
  if cut then (fil l (at' + t.size)).take (at' + t.size) else (fil l (at' + t.size)).take at' ++ ll t ++ (fil l (at' + t.size)).drop (at' + t.size)
theorem onL_len (at' : Nat) (t : ByteArray) (cut : Bool) (l : List UInt8) : (onL at' t cut l).length = if cut then at' + t.size else max l.length (at' + t.size) := by
  unfold onL
  have h := fil_len l (at' + t.size)
  split
  · rw [List.length_take, h]; omega
  · rw [List.length_append, List.length_append, List.length_take, List.length_drop, h, ll_len]; omega
theorem hszU8N : (Try.prog.info? 5).map (·.size) = some 1 := by kernel_rfl
theorem own_takeN {W : World} {base n m cap : Nat} {e : TypeId} {a : Option Addr} {xs : List Value} (h : W.ownsRow base e 1 (.slice a n cap) n xs) (hm : m ≤ n) : W.ownsRow base e 1 (.slice a m cap) m (xs.take m) := by
  have hx : xs.length = n := by have := h.1; omega
  refine ⟨by rw [List.length_take]; omega, ?_⟩
  rcases h.2 with ⟨h1, h2⟩ | ⟨g, cap', cur, h1, h2, h3, h4, h5, h6, h7⟩
  · injection h1 with q1 q2 q3
    subst q1 q3
    obtain rfl : m = 0 := by omega
    exact .inl ⟨rfl, rfl⟩
  · injection h1 with q1 q2 q3
    subst q1 q3
    refine .inr ⟨g, cap, cur, rfl, h2, h3, by omega, h5, h6, ?_⟩
    rw [Nat.mul_one] at h7 ⊢
    rw [← h7, List.take_take, Nat.min_eq_left hm]
theorem own_copyN {W : World} {base n cap g : Nat} {l : List UInt8} (h : W.ownsRow base 5 1 (.slice (some ⟨g, 0, none⟩) n cap) n (valsB l)) (off dl dc : Nat) (t : ByteArray) (hle : t.size ≤ dl) (hfit : off + t.size ≤ n) :
    ∃ W', (Builtin.copy_ #[56, 9] 3 #[.slice (some ⟨g, off, none⟩) dl dc, .string t]).run Try.prog W = .ok (.int .i64 t.size) W' ∧ W'.ownsRow base 5 1 (.slice (some ⟨g, 0, none⟩) n cap) n (valsB (l.take off ++ ll t ++ l.drop (off + t.size))) ∧ W.grownBy W' (some g) := by
  have hl : l.length = n := by have := h.1; simp [valsB] at this; omega
  rcases h.2 with ⟨h1, _⟩ | ⟨g', cap', cur, h1, h2, h3, h4, h5, h6, h7⟩
  · cases h1
  · injection h1 with q1 q2 q3
    injection q1 with q1
    injection q1 with q1
    subst q1 q3
    rw [Nat.mul_one] at h6 h7
    refine ⟨_, Lib.run_copy_row_string (P := Try.prog) W 56 9 3 5 g off dl dc t cur 5 Try.underlying56 hszU8N h3 hle (by omega), ?_, ⟨rfl, rfl, rfl, by simp, fun k _ hk => setRow_other W g k _ (fun e => hk (by rw [e]))⟩⟩
    have hb : (byteCells t.data.toList).length = t.size := by rw [byteCells_length]; rfl
    refine ⟨?_, .inr ⟨g, cap, _, rfl, h2, setRow_heap W g cur _ _ _ h3, h4, h5, ?_, ?_⟩⟩
    · simp [valsB, ll_len]; omega
    · simp only [List.size_toArray, List.length_append, List.length_take, List.length_drop, Array.length_toList, hb]
      omega
    · have e1 : cur.toList = valsB l ++ cur.toList.drop n := by rw [← h7, List.take_append_drop]
      have hv : (valsB l).length = n := by simp [valsB, hl]
      have e2 : cur.toList.take off = (valsB l).take off := by rw [e1, List.take_append_of_le_length (by omega)]
      have e3 : cur.toList.drop (off + t.size) = (valsB l).drop (off + t.size) ++ cur.toList.drop n := by
        conv => lhs; rw [e1]
        rw [List.drop_append_of_le_length (by omega)]
      rw [e2, e3, Nat.mul_one]
      have e4 : byteCells t.data.toList = valsB (ll t) := rfl
      rw [e4]
      have e5 : (valsB l).take off ++ valsB (ll t) ++ ((valsB l).drop (off + t.size) ++ cur.toList.drop n) = valsB (l.take off ++ ll t ++ l.drop (off + t.size)) ++ cur.toList.drop n := by
        simp [valsB, List.map_take, List.map_drop]
      show List.take n ((valsB l).take off ++ valsB (ll t) ++ ((valsB l).drop (off + t.size) ++ cur.toList.drop n)) = _
      rw [e5, List.take_left' (by simp [valsB, ll_len]; omega)]
theorem copy0N (W : World) (d : Option Addr) (dl dc : Nat) (t : ByteArray) (h0 : t.size = 0) :
    (Builtin.copy_ #[56, 9] 3 #[.slice d dl dc, .string t]).run Try.prog W = .ok (.int .i64 0) W :=
  Lib.run_copy_empty_string (P := Try.prog) W 56 9 3 5 d dl dc t Try.underlying56 (by rw [hszU8N]; rfl) h0
end Go.Proofs.Ytfjkockcgddgbaa
