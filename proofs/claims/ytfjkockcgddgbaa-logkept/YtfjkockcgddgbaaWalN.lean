/- a log's head with zeros behind it: plain facts -/
import Derived.Test.YtfjkockcgddgbaaWalK
namespace Go.Proofs.Ytfjkockcgddgbaa
theorem fil_take {l : List UInt8} {a n : Nat} (h : a ≤ n) : (fil l n).take a = (fil l a).take a := by
  unfold fil
  rw [List.take_append, List.take_append, List.take_replicate, List.take_replicate]
  congr 2
  omega
theorem onL_fil {p a : Nat} {t : ByteArray} {l : List UInt8} (hp : a ≤ p) : (fil (onL p t false l) a).take a = (fil l a).take a := by
  have hlen : a ≤ (onL p t false l).length := by rw [onL_len]; simp; omega
  rw [fil_le hlen]
  unfold onL
  have h1 : a ≤ ((fil l (p + t.size)).take p).length := by rw [List.length_take, fil_len]; omega
  rw [if_neg (by decide), List.append_assoc, List.take_append_of_le_length h1, List.take_take, Nat.min_eq_left hp]
  exact fil_take (by omega)
theorem crL_pad {a : Nat} {ws : List Chg} (h : Hi a ws) (fa : Nat → Int) (lb : Nat → List UInt8) : ∀ i, i ≤ ws.length → (∀ j, ¬ j = 3 → crL fa ws lb i j = lb j) ∧ (fil (crL fa ws lb i 3) a).take a = (fil (lb 3) a).take a ∧ (lb 3).length ≤ (crL fa ws lb i 3).length ∧ (crL fa ws lb i 3 = lb 3 ∨ a ≤ (crL fa ws lb i 3).length)
  | 0, _ => ⟨fun _ _ => rfl, rfl, Nat.le_refl _, .inl rfl⟩
  | i + 1, hi => by
    obtain ⟨h1, h2, h3, h4⟩ := crL_pad h fa lb i (by omega)
    obtain ⟨e1, e2, e3⟩ := h ws[i] (List.getElem_mem _)
    have step : ∀ t : ByteArray, (∀ j, ¬ j = 3 → updF (crL fa ws lb i) 3 (onL ws[i].p t false (crL fa ws lb i 3)) j = lb j) ∧ (fil (updF (crL fa ws lb i) 3 (onL ws[i].p t false (crL fa ws lb i 3)) 3) a).take a = (fil (lb 3) a).take a ∧ (lb 3).length ≤ (updF (crL fa ws lb i) 3 (onL ws[i].p t false (crL fa ws lb i 3)) 3).length ∧ (updF (crL fa ws lb i) 3 (onL ws[i].p t false (crL fa ws lb i 3)) 3 = lb 3 ∨ a ≤ (updF (crL fa ws lb i) 3 (onL ws[i].p t false (crL fa ws lb i 3)) 3).length) := fun t => by
      refine ⟨fun j hj => by rw [updF_ne _ _ hj]; exact h1 j hj, ?_, ?_, .inr ?_⟩
      · rw [updF_at, onL_fil e3]; exact h2
      · rw [updF_at]; exact Nat.le_trans h3 onL_ge
      · rw [updF_at, onL_len]; simp; omega
    rw [crL_succ (by omega)]
    unfold crS
    rw [e1, e2]
    split
    · exact step _
    · split
      · exact step _
      · exact ⟨h1, h2, h3, h4⟩
/- as crD_high, for a log of any length -/
theorem crD_pad {a : Nat} {S : DS} (h : Hi a S.ws) (fa : Nat → Int) : (crD fa S).lb 0 = S.lb 1 ∧ (crD fa S).lb 1 = S.lb 1 ∧ (fil ((crD fa S).lb 2) a).take a = (fil (S.lb 3) a).take a ∧ (crD fa S).lb 3 = (crD fa S).lb 2 ∧ (S.lb 3).length ≤ ((crD fa S).lb 2).length ∧ ((crD fa S).lb 2 = S.lb 3 ∨ a ≤ ((crD fa S).lb 2).length) := by
  obtain ⟨h1, h2, h3, h4⟩ := crL_pad h fa S.lb S.ws.length (Nat.le_refl _)
  obtain ⟨c0, c1, c2, c3⟩ := cp_at (crL fa S.ws S.lb S.ws.length)
  have e : (crD fa S).lb 2 = crL fa S.ws S.lb S.ws.length 3 := c2
  rw [e]
  exact ⟨c0.trans (h1 1 (by decide)), c1.trans (h1 1 (by decide)), h2, c3, h3, h4⟩
end Go.Proofs.Ytfjkockcgddgbaa
