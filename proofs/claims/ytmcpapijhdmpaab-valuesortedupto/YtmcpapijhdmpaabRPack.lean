/- relstoreref.Pack -/
import Derived.Test.YtmcpapijhdmpaabRByt
namespace Go.Proofs.Ytmcpapijhdmpaab
open Go.RowKit Go.Lib
attribute [local go_sem ↓] Go.wp_at_zero Go.wp_at_succ
theorem conv_one (X : World) (A : Nat) (hA : X.heap.size = A) (z : Int) (u : UInt8) (hz : z = (u.toNat : Int)) : (convert 72 9 (.slice (some ⟨A, 0, none⟩) 1 1)).run Try.prog (X.alloc (.cells #[.int .u8 z] 5)) = .ok (.string ⟨#[u]⟩) (X.alloc (.cells #[.int .u8 z] 5)) := by
  subst hA
  have := run_convert_bytes_back (P := Try.prog) (X.alloc (.cells #[.int .u8 z] 5)) 72 9 5 ⟨X.heap.size, 0, none⟩ 1 [u] Try.underlying72 Try.underlying5 Try.underlying9 (fun j hj => by
    have : j = 0 := by simpa using hj
    subst this
    rw [Addr.add_lit, hz]
    simp only [World.cell?, World.alloc_heap_new]
    simp)
  exact this
theorem fit_or (K : Nat → Int) (S : Nat → ByteArray) (n i : Nat) (hi : i < n) (h : ¬ (cs (K i) (S i)).size ≤ 1000) : ¬ fit K S n := fun hf => h (hf i hi)
theorem pa_no {K N : Nat → Int} {S : Nat → ByteArray} {n : Nat} (h : ¬ fit K S n) : paS K N S n = ⟨#[]⟩ ∧ paE K S n = 8 := by
  unfold paS paE
  rw [if_neg (fun x => h x.2), if_neg (fun x => h x.2)]
  exact ⟨rfl, rfl⟩
theorem mk_app1 (l : List UInt8) (u : UInt8) : (⟨l.toArray⟩ : ByteArray) ++ ⟨#[u]⟩ = ⟨(l ++ [u]).toArray⟩ := app_mkN l [u]
theorem mk_appS (l : List UInt8) (s : ByteArray) : (⟨l.toArray⟩ : ByteArray) ++ s = ⟨(l ++ s.data.toList).toArray⟩ := by
  have := app_mkN l s.data.toList
  exact this
/- one round's string -/
theorem rp_round {n : Nat} {K N : Nat → Int} {S : Nat → ByteArray} {i : Nat} {x : ByteArray} (h : x = ⟨((UInt8.ofNat n :: pkL K N S i) ++ pkV (K i) (N i) (S i)).toArray⟩) : x = ⟨(UInt8.ofNat n :: pkL K N S (i + 1)).toArray⟩ := h
end Go.Proofs.Ytmcpapijhdmpaab
