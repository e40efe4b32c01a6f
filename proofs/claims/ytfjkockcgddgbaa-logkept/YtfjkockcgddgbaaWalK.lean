/- what a crash cannot touch: plain facts -/
import Derived.Test.YtfjkockcgddgbaaWalJ
namespace Go.Proofs.Ytfjkockcgddgbaa
theorem onL_take {p a : Nat} {t : ByteArray} {l : List UInt8} (hp : a ≤ p) (hl : a ≤ l.length) : (onL p t false l).take a = l.take a := by
  unfold onL
  have h1 : a ≤ ((fil l (p + t.size)).take p).length := by rw [List.length_take, fil_len]; omega
  rw [if_neg (by decide), List.append_assoc, List.take_append_of_le_length h1, List.take_take, Nat.min_eq_left hp]
  unfold fil
  rw [List.take_append_of_le_length hl]
theorem onL_ge {p : Nat} {t : ByteArray} {l : List UInt8} : l.length ≤ (onL p t false l).length := by
  rw [onL_len]
  simp
  omega
/- every waiting change writes file 1 alone, at byte a or above -/
def Hi (a : Nat) (ws : List Chg) : Prop := ∀ x ∈ ws, x.f = 1 ∧ x.c = false ∧ a ≤ x.p
theorem Hi.mono {a b : Nat} {ws : List Chg} (h : Hi b ws) (hab : a ≤ b) : Hi a ws := fun x hx => ⟨(h x hx).1, (h x hx).2.1, Nat.le_trans hab (h x hx).2.2⟩
theorem Hi.snoc {a : Nat} {ws : List Chg} (h : Hi a ws) (p : Nat) (t : ByteArray) (hp : a ≤ p) : Hi a (ws ++ [⟨1, p, t, false⟩]) := fun x hx => by
  rcases List.mem_append.1 hx with hx | hx
  · exact h x hx
  · obtain rfl := List.mem_singleton.1 hx
    exact ⟨rfl, rfl, hp⟩
theorem crL_high {a : Nat} {ws : List Chg} (h : Hi a ws) (fa : Nat → Int) (lb : Nat → List UInt8) (ha : a ≤ (lb 3).length) : ∀ i, i ≤ ws.length → (∀ j, ¬ j = 3 → crL fa ws lb i j = lb j) ∧ (crL fa ws lb i 3).take a = (lb 3).take a ∧ (lb 3).length ≤ (crL fa ws lb i 3).length
  | 0, _ => ⟨fun _ _ => rfl, rfl, Nat.le_refl _⟩
  | i + 1, hi => by
    obtain ⟨h1, h2, h3⟩ := crL_high h fa lb ha i (by omega)
    obtain ⟨e1, e2, e3⟩ := h ws[i] (List.getElem_mem _)
    rw [crL_succ (by omega)]
    unfold crS
    rw [e1, e2]
    split
    · refine ⟨fun j hj => by rw [updF_ne _ _ hj]; exact h1 j hj, ?_, ?_⟩
      · rw [updF_at, onL_take e3 (Nat.le_trans ha h3)]; exact h2
      · rw [updF_at]; exact Nat.le_trans h3 onL_ge
    · split
      · refine ⟨fun j hj => by rw [updF_ne _ _ hj]; exact h1 j hj, ?_, ?_⟩
        · rw [updF_at, onL_take e3 (Nat.le_trans ha h3)]; exact h2
        · rw [updF_at]; exact Nat.le_trans h3 onL_ge
      · exact ⟨h1, h2, h3⟩
theorem cp_at (l : Nat → List UInt8) : cpL l 2 0 = l 1 ∧ cpL l 2 1 = l 1 ∧ cpL l 2 2 = l 3 ∧ cpL l 2 3 = l 3 := by
  simp [cpL, updF]
/- behind such a crash the first a bytes of the log, and all pages, are what lasted -/
theorem crD_high {a : Nat} {S : DS} (h : Hi a S.ws) (fa : Nat → Int) (ha : a ≤ (S.lb 3).length) : (crD fa S).lb 0 = S.lb 1 ∧ (crD fa S).lb 1 = S.lb 1 ∧ ((crD fa S).lb 2).take a = (S.lb 3).take a ∧ (crD fa S).lb 3 = (crD fa S).lb 2 ∧ (S.lb 3).length ≤ ((crD fa S).lb 2).length ∧ (crD fa S).ws = [] ∧ (crD fa S).down = false := by
  obtain ⟨h1, h2, h3⟩ := crL_high h fa S.lb ha S.ws.length (Nat.le_refl _)
  obtain ⟨c0, c1, c2, c3⟩ := cp_at (crL fa S.ws S.lb S.ws.length)
  refine ⟨c0.trans (h1 1 (by decide)), c1.trans (h1 1 (by decide)), ?_, c3.trans c2.symm, ?_, rfl, rfl⟩
  · exact (congrArg (List.take a) c2).trans h2
  · exact Nat.le_trans h3 (Nat.le_of_eq (congrArg List.length c2.symm))
end Go.Proofs.Ytfjkockcgddgbaa
