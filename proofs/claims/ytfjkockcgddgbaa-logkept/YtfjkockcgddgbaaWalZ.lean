/- a map of numbers has no more entries than keys -/
import Derived.Test.YtfjkockcgddgbaaWalY
import Derived.Test.YtfjkockcgddgbaaWalF
namespace Go.Proofs.Ytfjkockcgddgbaa
open Go.RowKit Go.Lib Go.Maps
theorem few_of : ∀ {l : List Int} {a : Int} {k : Nat}, l.Pairwise (· < ·) → (∀ x ∈ l, a ≤ x ∧ x < a + k) → l.length ≤ k
  | [], _, _, _, _ => Nat.zero_le _
  | x :: r, a, k, hp, hm => by
    have hx := hm x (List.mem_cons_self ..)
    obtain ⟨j, rfl⟩ : ∃ j, k = j + 1 := ⟨k - 1, by omega⟩
    have := few_of (l := r) (a := x + 1) (k := j) (List.pairwise_cons.1 hp).2 (fun y hy => by
      have h1 := (List.pairwise_cons.1 hp).1 y hy
      have h2 := hm y (List.mem_cons_of_mem _ hy)
      omega)
    rw [List.length_cons]
    omega
theorem MI.small {X : World} {b n k : Nat} {F : Int → Option Int} (h : MI X b n F) (hF : ∀ x, (F x).isSome = true → 0 ≤ x ∧ x < k) : MI X b k F := by
  obtain ⟨D, hown, hK⟩ := h
  refine ⟨D, ?_, hK⟩
  have hk := keys_of hown (List.Perm.refl _) hK
  have hlen : (intKeys D).length ≤ k := by
    rw [← (List.mergeSort_perm (intKeys D) (fun x y => decide (x ≤ y))).length_eq]
    refine few_of (a := 0) hk.sorted (fun x hx => ?_)
    have := hF x ((hk.mem x).1 hx).2
    omega
  obtain ⟨es, clock, hb, hf, hs, rfl⟩ := hown
  refine ⟨es, clock, hb, hf, ?_, rfl⟩
  simpa [intKeys, length_sorted] using hlen
theorem PL.small {X : World} {B D G bp bf n k : Nat} {L : LS} {S : DS} (h : PL X B D G bp bf n L S) (hp : ∀ x, (L.pl x).isSome = true → 0 ≤ x ∧ x < k) (hf : ∀ x, (L.fh x).isSome = true → 0 ≤ x ∧ x < k) : PL X B D G bp bf k L S :=
  ⟨h.blk, h.low, h.dif, h.mp.small hp, h.mf.small hf, h.dsk⟩
end Go.Proofs.Ytfjkockcgddgbaa
