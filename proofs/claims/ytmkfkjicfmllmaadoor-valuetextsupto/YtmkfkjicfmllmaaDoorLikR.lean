/- relstoreref.Like -/
import Derived.Test.YtmkfkjicfmllmaaDoorLikP
import Derived.Test.YtmkfkjicfmllmaaDoorLike1
import Derived.Laws.MakeOwn
namespace Go.Proofs.YtmkfkjicfmllmaaDoor
open Go.RowKit
attribute [local go_sem ↓] Go.wp_at_zero Go.wp_at_succ
def bA (f : Nat → Bool) (n : Nat) : Array Value := ((List.range n).map fun i => Value.bool (f i)).toArray
def updB (f : Nat → Bool) (k : Nat) (b : Bool) : Nat → Bool := fun i => if i = k then b else f i
theorem bA_size (f : Nat → Bool) (n : Nat) : (bA f n).size = n := by simp [bA]
theorem bA_get {f : Nat → Bool} {n i : Nat} (h : i < n) : (bA f n)[i]? = some (.bool (f i)) := by simp [bA, h]
theorem bA_set (f : Nat → Bool) (n k : Nat) (b : Bool) : (bA f n).setIfInBounds k (.bool b) = bA (updB f k b) n := by
  apply Array.ext_getElem?
  intro i
  by_cases hi : i < n
  · by_cases e : k = i
    · subst e
      rw [Array.getElem?_setIfInBounds_self_of_lt (by rw [bA_size]; exact hi), bA_get hi]
      simp [updB]
    · rw [Array.getElem?_setIfInBounds_ne e, bA_get hi, bA_get hi]
      simp [updB, Ne.symm e]
  · rw [Array.getElem?_eq_none (by rw [Array.size_setIfInBounds, bA_size]; omega), Array.getElem?_eq_none (by rw [bA_size]; omega)]
theorem bA_zero (n : Nat) : madeCells (Value.bool false).cells n = bA (fun _ => false) n := by
  apply Array.toList_inj.1
  rw [show (madeCells (Value.bool false).cells n).toList = List.replicate n (.bool false) from toList_madeCells_one _ _]
  simp [bA, List.map_const']
theorem infoBo : (Tryd.prog.info? 4).map (fun i => (i.zero, i.size, i.bytes)) = some (some (.bool false), 1, 1) := by kernel_rfl
theorem infoBo_parts : ∃ i0, Tryd.prog.info? 4 = some i0 ∧ i0.zero = some (.bool false) ∧ i0.size = 1 ∧ i0.bytes = 1 := by
  cases h : Tryd.prog.info? 4 with
  | none => have := infoBo; rw [h] at this; cases this
  | some i0 =>
    have := infoBo
    rw [h] at this
    simp only [Option.map_some, Option.some.injEq, Prod.mk.injEq] at this
    exact ⟨i0, rfl, this.1, this.2.1, this.2.2⟩
theorem made_bools (W : World) (n : Nat) (x : Int) (hx : x = (n : Int)) (hn : n ≤ 140737488355328) : (Instr.makeSlice 33 (.int .i64 x) (.int .i64 x)).run Tryd.prog W = .ok (.slice (some ⟨W.heap.size, 0, none⟩) n n) (W.alloc (.cells (bA (fun _ => false) n) 4)) := by
  subst hx
  obtain ⟨i0, hi, hz0, hz1, hz2⟩ := infoBo_parts
  have hm := run_make (P := Tryd.prog) W 33 4 i0 (.bool false) Tryd.underlying33 hi hz0 .i64 .i64 (n : Int) (n : Int) (by omega) (by omega) (by rw [hz2]; omega) (by omega)
  rw [hz1, Int.toNat_natCast, Nat.mul_one, bA_zero] at hm
  exact hm
/- a row of truths -/
def Bo (X : World) (g : Nat) (f : Nat → Bool) (n : Nat) : Prop := X.heap[g]? = some (.cells (bA f n) 4 (0, 0))
theorem Bo.cell {X : World} {g : Nat} {f : Nat → Bool} {n i : Nat} (h : Bo X g f n) (hi : i < n) : X.cell? ⟨g, i, none⟩ = some (.bool (f i)) := by
  have h : X.heap[g]? = _ := h
  simp [World.cell?, h, bA_get hi]
theorem Bo.fz {X : World} {g : Nat} {f : Nat → Bool} {n : Nat} (h : Bo X g f n) (i : Nat) : X.frozen? ⟨g, i, none⟩ = false := by
  have h : X.heap[g]? = _ := h
  simp [World.frozen?, h]
theorem Bo.lt {X : World} {g : Nat} {f : Nat → Bool} {n : Nat} (h : Bo X g f n) : g < X.heap.size := (Array.getElem?_eq_some_iff.1 h).1
theorem Bo.set {X : World} {g : Nat} {f : Nat → Bool} {n : Nat} (h : Bo X g f n) (k : Nat) (b : Bool) : Bo (X.setCell ⟨g, k, none⟩ (.bool b)) g (updB f k b) n := by
  obtain ⟨hlt, hk⟩ := Array.getElem?_eq_some_iff.1 h
  show (X.heap.modify g _)[g]? = _
  rw [Array.getElem?_eq_getElem (by rw [Array.size_modify]; exact hlt), Array.getElem_modify_self, hk, ← bA_set]
  rfl
theorem Bo.far {X : World} {g g' : Nat} {f : Nat → Bool} {n : Nat} (h : Bo X g f n) (hne : ¬ g = g') (k : Nat) (v : Value) : Bo (X.setCell ⟨g', k, none⟩ v) g f n :=
  (Below.heap_setCell X ⟨g', k, none⟩ v g hne).trans h
theorem Bo.alloc {X : World} {g : Nat} {f : Nat → Bool} {n : Nat} (h : Bo X g f n) (o : Obj) : Bo (X.alloc o) g f n :=
  (Below.heap_alloc X o g h.lt).trans h
theorem Bo.new (X : World) (f : Nat → Bool) (n : Nat) : Bo (X.alloc (.cells (bA f n) 4)) X.heap.size f n := by
  show (X.heap.push _)[X.heap.size]? = _
  rw [Array.getElem?_push_size]
theorem Bo.drew {X : World} {g : Nat} {f : Nat → Bool} {n m : Nat} (h : Bo X g f n) : Bo (X.drewN m) g f n := h
theorem below_dw {B m : Nat} {a X : World} (h : Below B a X) : Below B a (X.drewN m) := ⟨h.os, h.tape, h.output, h.size, h.block⟩
theorem below_dws {B m : Nat} {a X : World} {q : Addr} {v : Value} (h : Below B a (X.setCell q v)) : Below B a ((X.drewN m).setCell q v) := ⟨h.os, h.tape, h.output, h.size, h.block⟩
/- what the next places are, when a sign of the pattern is no mark for many -/
def OneI (s : ByteArray) (c : UInt8) (f nx : Nat → Bool) (i : Nat) : Prop := nx 0 = false ∧ (∀ j, j < i → (hj : j < s.size) → (nx (j + 1) = true ↔ f j = true ∧ (c = 95 ∨ c = (s[j]'hj)))) ∧ ∀ j, i < j → nx j = false
def OneI.no (s : ByteArray) (c : UInt8) (f : Nat → Bool) (i : Nat) : Prop := (h : i < s.size) → f i = true → (c = 95 ∨ c = (s[i]'h)) → False
theorem OneI.zero (s : ByteArray) (c : UInt8) (f : Nat → Bool) : OneI s c f (fun _ => false) 0 := ⟨rfl, fun j h => by omega, fun _ _ => rfl⟩
theorem OneI.stay {s : ByteArray} {c : UInt8} {f nx : Nat → Bool} {i : Nat} (h : OneI s c f nx i) (hn : OneI.no s c f i) : OneI s c f nx (i + 1) := by
  refine ⟨h.1, fun j hj hs => ?_, fun j hj => h.2.2 j (by omega)⟩
  by_cases e : j = i
  · subst e
    constructor
    · intro h'; rw [h.2.2 (j + 1) (by omega)] at h'; cases h'
    · rintro ⟨h1, h2⟩; exact absurd (hn hs h1 h2) id
  · exact h.2.1 j (by omega) hs
theorem OneI.put {s : ByteArray} {c : UInt8} {f nx : Nat → Bool} {i : Nat} (h : OneI s c f nx i) (hs : i < s.size) (hf : f i = true) (hc : c = 95 ∨ c = (s[i]'hs)) : OneI s c f (updB nx (i + 1) true) (i + 1) := by
  refine ⟨by rw [← h.1]; simp [updB], fun j hj hs' => ?_, fun j hj => ?_⟩
  · by_cases e : j = i
    · subst e
      simp only [updB]
      exact ⟨fun _ => ⟨hf, hc⟩, fun _ => rfl⟩
    · rw [show updB nx (i + 1) true (j + 1) = nx (j + 1) by simp [updB, e]]
      exact h.2.1 j (by omega) hs'
  · rw [show updB nx (i + 1) true j = nx j by simp [updB]; omega]
    exact h.2.2 j (by omega)
set_option maxRecDepth 20000 in
set_option maxHeartbeats 1000000 in
theorem rlike (nA nB : Int) (s p : ByteArray) (w : World) (hs : s.size ≤ 140737488355000) (hp : p.size ≤ 140737488355000) :
    Calls Tryd.prog 8 #[(.agg #[.int .i64 (3), .int .i64 (nA), .string (s)]), (.agg #[.int .i64 (3), .int .i64 (nB), .string (p)])] w fun e w' => ∃ b : Bool, e = .returned (.agg #[.int .i64 (1), .int .i64 (bn b), .string (⟨#[]⟩)]) ∧ (b = true ↔ M (L p) (L s)) ∧ Below w.heap.size w w' := by
  obtain ⟨g, hg⟩ : ∃ g, g = w.heap.size + 1 + 1 + 1 := ⟨_, rfl⟩
  obtain ⟨Y, hmk, HBo, HY⟩ : ∃ Y, (Instr.makeSlice 33 (.int .i64 ((s.size : Int) + 1)) (.int .i64 ((s.size : Int) + 1))).run Tryd.prog (((w.alloc (.cells #[.int .i64 3, .int .i64 nA, .string s] 23)).alloc (.cells #[.int .i64 3, .int .i64 nB, .string p] 23)).alloc (.cells #[.int .i64 0, .int .i64 0, .string ⟨#[]⟩] 23)) = .ok (.slice (some ⟨g, 0, none⟩) (s.size + 1) (s.size + 1)) Y ∧ Hid (Bo Y g (fun _ => false) (s.size + 1)) ∧ Hid (Below (w.heap.size + 1 + 1 + 1) (((w.alloc (.cells #[.int .i64 3, .int .i64 nA, .string s] 23)).alloc (.cells #[.int .i64 3, .int .i64 nB, .string p] 23)).alloc (.cells #[.int .i64 0, .int .i64 0, .string ⟨#[]⟩] 23)) Y) := by
    have hsz : (((w.alloc (.cells #[.int .i64 3, .int .i64 nA, .string s] 23)).alloc (.cells #[.int .i64 3, .int .i64 nB, .string p] 23)).alloc (.cells #[.int .i64 0, .int .i64 0, .string ⟨#[]⟩] 23)).heap.size = g := by rw [hg]; simp
    have hmk := made_bools (((w.alloc (.cells #[.int .i64 3, .int .i64 nA, .string s] 23)).alloc (.cells #[.int .i64 3, .int .i64 nB, .string p] 23)).alloc (.cells #[.int .i64 0, .int .i64 0, .string ⟨#[]⟩] 23)) (s.size + 1) ((s.size : Int) + 1) (by omega) (by omega)
    rw [hsz] at hmk
    refine ⟨_, hmk, ?_, ?_⟩
    · have := Bo.new (((w.alloc (.cells #[.int .i64 3, .int .i64 nA, .string s] 23)).alloc (.cells #[.int .i64 3, .int .i64 nB, .string p] 23)).alloc (.cells #[.int .i64 0, .int .i64 0, .string ⟨#[]⟩] 23)) (fun _ => false) (s.size + 1)
      rw [hsz] at this
      exact this
    · exact (Below.refl _ _).alloc (by rw [hsz, hg]; exact Nat.le_refl _) _
  have HB0 : Hid (Below w.heap.size w (((w.alloc (.cells #[.int .i64 3, .int .i64 nA, .string s] 23)).alloc (.cells #[.int .i64 3, .int .i64 nB, .string p] 23)).alloc (.cells #[.int .i64 0, .int .i64 0, .string ⟨#[]⟩] 23))) := ((((Below.refl _ _).alloc (Nat.le_refl _) _).alloc (by simp) _).alloc (by simp; omega) _)
  have k0 : (0 : Int) < (s.size : Int) + 1 := by omega
  have c0 := HBo.out.cell (show 0 < s.size + 1 by omega)
  have f0 := HBo.out.fz 0
  have HB1 : Hid (Bo (Y.setCell ⟨g, 0, none⟩ (.bool true)) g (updB (fun _ => false) 0 true) (s.size + 1)) := HBo.out.set 0 true
  have HY1 : Hid (Below (w.heap.size + 1 + 1 + 1) (((w.alloc (.cells #[.int .i64 3, .int .i64 nA, .string s] 23)).alloc (.cells #[.int .i64 3, .int .i64 nB, .string p] 23)).alloc (.cells #[.int .i64 0, .int .i64 0, .string ⟨#[]⟩] 23)) (Y.setCell ⟨g, 0, none⟩ (.bool true))) := HY.out.setCell (p := ⟨g, 0, none⟩) (by show _ ≤ g; omega) _
  have hgs : w.heap.size + 1 + 1 + 1 ≤ g := by omega
  clear hg HBo HY
  go_enter Tryd.func8, Tryd.ntmps8
  go_wp2_with fail
  generalize Y.setCell ⟨g, 0, none⟩ (.bool true) = Y1 at *
  have hW0 : (((w.alloc (.cells #[.int .i64 3, .int .i64 nA, .string s] 23)).alloc (.cells #[.int .i64 3, .int .i64 nB, .string p] 23)).alloc (.cells #[.int .i64 0, .int .i64 0, .string ⟨#[]⟩] 23)).heap.size = w.heap.size + 1 + 1 + 1 := by simp
  have a2 : ∀ X, Below (w.heap.size + 1 + 1 + 1) (((w.alloc (.cells #[.int .i64 3, .int .i64 nA, .string s] 23)).alloc (.cells #[.int .i64 3, .int .i64 nB, .string p] 23)).alloc (.cells #[.int .i64 0, .int .i64 0, .string ⟨#[]⟩] 23)) X → X.cell? ⟨w.heap.size, 2, none⟩ = some (.string s) ∧ X.cell? ⟨w.heap.size + 1, 2, none⟩ = some (.string p) := fun X h => ⟨(h.cell (p := ⟨w.heap.size, 2, none⟩) (by show w.heap.size < w.heap.size + 1 + 1 + 1; omega)).trans (by go_simp), (h.cell (p := ⟨w.heap.size + 1, 2, none⟩) (by show w.heap.size + 1 < w.heap.size + 1 + 1 + 1; omega)).trans (by go_simp)⟩
  have A2 : Hid _ := a2
  clear a2 hW0 c0 f0
  go_loopw [5, 6] (fun v u X => ∃ (k g : Nat) (f : Nat → Bool), u = .int .i64 k ∧ v = .slice (some ⟨g, 0, none⟩) (s.size + 1) (s.size + 1) ∧ k ≤ p.size ∧ w.heap.size + 1 + 1 + 1 ≤ g ∧ Hid (Bo X g f (s.size + 1)) ∧ Hid (∀ i, i ≤ s.size → (f i = true ↔ Rch (L p) (L s) k i)) ∧ Hid (Below (w.heap.size + 1 + 1 + 1) (((w.alloc (.cells #[.int .i64 3, .int .i64 nA, .string s] 23)).alloc (.cells #[.int .i64 3, .int .i64 nB, .string p] 23)).alloc (.cells #[.int .i64 0, .int .i64 0, .string ⟨#[]⟩] 23)) X)) (fun _ u _ => p.size - (intOf u).toNat)
  case atStart =>
    refine ⟨0, g, _, rfl, rfl, Nat.zero_le _, hgs, HB1, ?_, HY1⟩
    intro i hi
    rw [Rch_zero _ _ _ (by rw [L_len]; exact hi)]
    simp [updB]
  case round =>
    clear HB1 HY1 hmk hgs
    obtain ⟨k, g, f, rfl, rfl, hk, hg, HF, HR, HB⟩ := hrel
    obtain ⟨x2, x3⟩ := A2.out _ HB.out
    by_cases hlt : k < p.size
    · have kk : (k : Int) < (p.size : Int) := by omega
      have zb := HB.out.size
      obtain ⟨n, hn⟩ : ∃ n, n = wr.heap.size := ⟨_, rfl⟩
      have zg := HF.out.lt
      have zw : w.heap.size + 1 + 1 + 1 ≤ n := by omega
      obtain ⟨Y, hmk, HBo, HY, HFY⟩ : ∃ Y, (Instr.makeSlice 33 (.int .i64 ((s.size : Int) + 1)) (.int .i64 ((s.size : Int) + 1))).run Tryd.prog wr = .ok (.slice (some ⟨n, 0, none⟩) (s.size + 1) (s.size + 1)) Y ∧ Hid (Bo Y n (fun _ => false) (s.size + 1)) ∧ Hid (Below (w.heap.size + 1 + 1 + 1) (((w.alloc (.cells #[.int .i64 3, .int .i64 nA, .string s] 23)).alloc (.cells #[.int .i64 3, .int .i64 nB, .string p] 23)).alloc (.cells #[.int .i64 0, .int .i64 0, .string ⟨#[]⟩] 23)) Y) ∧ Hid (Bo Y g f (s.size + 1)) := by
        rw [hn]
        exact ⟨_, made_bools wr (s.size + 1) ((s.size : Int) + 1) (by omega) (by omega), Bo.new wr _ _, HB.out.alloc (by omega) _, HF.out.alloc _⟩
      have hgn : ¬ g = n := by omega
      clear hn zb zg HF HB
      have lp : k < (L p).length := by rw [L_len]; exact hlt
      have A2' : Hid _ := A2.out
      by_cases h3 : (p[k]'hlt) = 37
      · have b3 : (((p[k]'hlt).toNat : Int) == 37) = true := (byte37 (p[k]'hlt)).2 h3
        have H3 : Hid ((L p)[k] = 37) := h3
        clear h3
        go_wp2_with fail
        go_loopw [8, 40] (fun v u X => ∃ (i : Nat) (any : Bool) (nx : Nat → Bool), v = .bool any ∧ u = .int .i64 i ∧ i ≤ s.size + 1 ∧ Hid (Bo X n nx (s.size + 1)) ∧ Hid (Bo X g f (s.size + 1)) ∧ Hid (Below (w.heap.size + 1 + 1 + 1) (((w.alloc (.cells #[.int .i64 3, .int .i64 nA, .string s] 23)).alloc (.cells #[.int .i64 3, .int .i64 nB, .string p] 23)).alloc (.cells #[.int .i64 0, .int .i64 0, .string ⟨#[]⟩] 23)) X) ∧ Hid (any = true ↔ ∃ j, j < i ∧ f j = true) ∧ Hid (∀ j, j < i → (nx j = true ↔ ∃ t, t ≤ j ∧ f t = true))) (fun _ u _ => s.size + 1 - (intOf u).toNat)
        case atStart => exact ⟨0, false, _, rfl, rfl, Nat.zero_le _, HBo, HFY, HY, (⟨(fun h => by cases h), (fun ⟨j, h, _⟩ => by omega)⟩ : false = true ↔ ∃ j, j < 0 ∧ f j = true), fun j h => by omega⟩
        case round =>
          clear HBo HFY HY hmk x2 x3
          obtain ⟨i, any, nx, rfl, rfl, hi, HN, HG, HW, HA, HX⟩ := hrel
          obtain ⟨x2, x3⟩ := A2'.out _ HW.out
          by_cases hli : i < s.size + 1
          · have ki : (i : Int) < ((s.size + 1 : Nat) : Int) := by omega
            have ki' : (i : Int) < (s.size : Int) + 1 := by omega
            have kz : (0 : Int) ≤ (i : Int) := by omega
            have cg := HG.out.cell hli
            have cn := HN.out.cell hli
            have fn := HN.out.fz i
            have step : ∀ b : Bool, (b = true ↔ ∃ j, j < i + 1 ∧ f j = true) → Hid (Bo (wr.setCell ⟨n, i, none⟩ (.bool b)) n (updB nx i b) (s.size + 1)) ∧ Hid (Bo (wr.setCell ⟨n, i, none⟩ (.bool b)) g f (s.size + 1)) ∧ Hid (Below (w.heap.size + 1 + 1 + 1) (((w.alloc (.cells #[.int .i64 3, .int .i64 nA, .string s] 23)).alloc (.cells #[.int .i64 3, .int .i64 nB, .string p] 23)).alloc (.cells #[.int .i64 0, .int .i64 0, .string ⟨#[]⟩] 23)) (wr.setCell ⟨n, i, none⟩ (.bool b))) ∧ Hid (∀ j, j < i + 1 → (updB nx i b j = true ↔ ∃ t, t ≤ j ∧ f t = true)) := fun b hb => by
              refine ⟨HN.out.set i b, HG.out.far hgn i _, HW.out.setCell (p := ⟨n, i, none⟩) (by show _ ≤ n; omega) _, ?_⟩
              intro j hj
              by_cases e : j = i
              · subst e
                rw [show updB nx j b j = b by simp [updB], hb]
                constructor
                · rintro ⟨t, h1, h2⟩; exact ⟨t, by omega, h2⟩
                · rintro ⟨t, h1, h2⟩; exact ⟨t, by omega, h2⟩
              · rw [show updB nx i b j = nx j by simp [updB, e]]
                exact HX.out j (by omega)
            have STP : Hid _ := step
            clear step
            cases any with
            | true =>
              have hb : (true = true ↔ ∃ j, j < i + 1 ∧ f j = true) := by
                obtain ⟨j, h1, h2⟩ := HA.out.1 rfl
                exact ⟨fun _ => ⟨j, by omega, h2⟩, fun _ => rfl⟩
              have HS : Hid _ := STP.out true hb
              have HBB : Hid _ := hb
              clear hb
              go_wp2_with fail
              exact ⟨⟨i + 1, true, _, rfl, rfl, by omega, HS.out.1, HS.out.2.1, HS.out.2.2.1, HBB, HS.out.2.2.2⟩, by simp [intOf]; omega⟩
            | false =>
              have hb : (f i = true ↔ ∃ j, j < i + 1 ∧ f j = true) := by
                constructor
                · intro h; exact ⟨i, by omega, h⟩
                · rintro ⟨j, h1, h2⟩
                  by_cases e : j = i
                  · rw [← e]; exact h2
                  · exact absurd (HA.out.2 ⟨j, by omega, h2⟩) (by decide)
              have HS : Hid _ := STP.out (f i) hb
              have HBB : Hid _ := hb
              clear hb
              go_wp2_with fail
              exact ⟨⟨i + 1, f i, _, rfl, rfl, by omega, HS.out.1, HS.out.2.1, HS.out.2.2.1, HBB, HS.out.2.2.2⟩, by simp [intOf]; omega⟩
          · obtain rfl : i = s.size + 1 := by omega
            have HE : Hid (∀ j, j ≤ s.size → (nx j = true ↔ Rch (L p) (L s) (k + 1) j)) := fun j hj => by
              rw [HX.out j (by omega), Rch_star lp H3.out]
              constructor
              · rintro ⟨t, h1, h2⟩; exact ⟨t, h1, (HR.out t (by omega)).1 h2⟩
              · rintro ⟨t, h1, h2⟩; exact ⟨t, h1, (HR.out t (by omega)).2 h2⟩
            go_wp2_with fail
            exact ⟨⟨k + 1, n, nx, rfl, rfl, by omega, zw, HN, HE, HW⟩, by simp [intOf]; omega⟩
      · have b3 : (((p[k]'hlt).toNat : Int) == 37) = false := bfalse (byte37 (p[k]'hlt)) h3
        have H3 : Hid (¬ (L p)[k] = 37) := h3
        clear h3
        go_wp2_with fail
        go_loopw [8, 40] (fun v u X => ∃ (i : Nat) (any : Bool) (nx : Nat → Bool), v = .bool any ∧ u = .int .i64 i ∧ i ≤ s.size + 1 ∧ Hid (Bo X n nx (s.size + 1)) ∧ Hid (Bo X g f (s.size + 1)) ∧ Hid (Below (w.heap.size + 1 + 1 + 1) (((w.alloc (.cells #[.int .i64 3, .int .i64 nA, .string s] 23)).alloc (.cells #[.int .i64 3, .int .i64 nB, .string p] 23)).alloc (.cells #[.int .i64 0, .int .i64 0, .string ⟨#[]⟩] 23)) X) ∧ Hid (OneI s (p[k]'hlt) f nx i)) (fun _ u _ => s.size + 1 - (intOf u).toNat)
        case atStart => exact ⟨0, false, _, rfl, rfl, Nat.zero_le _, HBo, HFY, HY, OneI.zero s _ f⟩
        case round =>
          clear HBo HFY HY hmk x2 x3
          obtain ⟨i, any, nx, rfl, rfl, hi, HN, HG, HW, HX⟩ := hrel
          obtain ⟨x2, x3⟩ := A2'.out _ HW.out
          by_cases hli : i < s.size + 1
          · have ki : (i : Int) < ((s.size + 1 : Nat) : Int) := by omega
            have ki' : (i : Int) < (s.size : Int) + 1 := by omega
            have kz : (0 : Int) ≤ (i : Int) := by omega
            have cg := HG.out.cell hli
            have STAY : Hid (OneI.no s (p[k]'hlt) f i → OneI s (p[k]'hlt) f nx (i + 1)) := fun h => HX.out.stay h
            have SETN : i < s.size → Hid (Bo (wr.setCell ⟨n, i + 1, none⟩ (.bool true)) n (updB nx (i + 1) true) (s.size + 1)) ∧ Hid (Bo (wr.setCell ⟨n, i + 1, none⟩ (.bool true)) g f (s.size + 1)) ∧ Hid (Below (w.heap.size + 1 + 1 + 1) (((w.alloc (.cells #[.int .i64 3, .int .i64 nA, .string s] 23)).alloc (.cells #[.int .i64 3, .int .i64 nB, .string p] 23)).alloc (.cells #[.int .i64 0, .int .i64 0, .string ⟨#[]⟩] 23)) (wr.setCell ⟨n, i + 1, none⟩ (.bool true))) := fun h => ⟨HN.out.set (i + 1) true, HG.out.far hgn (i + 1) _, HW.out.setCell (p := ⟨n, i + 1, none⟩) (by show _ ≤ n; omega) _⟩
            have SN : Hid _ := SETN
            clear SETN
            cases hfi : f i with
            | false =>
              have HO : Hid _ := STAY.out (fun _ h _ => by rw [hfi] at h; cases h)
              rw [hfi] at cg
              clear hfi
              cases any
              all_goals
                go_wp2_with fail
                refine wp_region_quiet_lit (by kernel_rfl) (by kernel_rfl) ?_; (repeat (first | go_big_quiet_step (fail) | (rw [b4]) | (rw [b5]))); refine wpQuiet_nil ?_; intro _ hw'; obtain ⟨nr, hw''⟩ := hw'; subst hw''
                go_wp2
                exact ⟨⟨i + 1, _, nx, rfl, rfl, by omega, HN, HG, below_dw HW.out, HO⟩, by simp [intOf]; omega⟩
            | true =>
              rw [hfi] at cg
              by_cases his : i < s.size
              · have ks : (i : Int) < (s.size : Int) := by omega
                have ls : i < (L s).length := by rw [L_len]; exact his
                have cn := HN.out.cell (show i + 1 < s.size + 1 by omega)
                have fn := HN.out.fz (i + 1)
                have HS : Hid _ := SN.out his
                have kj : (i : Int) + 1 < (s.size : Int) + 1 := by omega
                have kj0 : (0 : Int) ≤ (i : Int) + 1 := by omega
                by_cases h4 : (p[k]'hlt) = 95
                · have b4 : (((p[k]'hlt).toNat : Int) == 95) = true := (byte95 (p[k]'hlt)).2 h4
                  have HO : Hid _ := HX.out.put his hfi (.inl h4)
                  clear h4 hfi
                  cases any
                  all_goals
                    go_wp2_with fail
                    refine wp_region_quiet_lit (by kernel_rfl) (by kernel_rfl) ?_; (repeat (first | go_big_quiet_step (fail) | (rw [b4]) | (rw [b5]))); refine wpQuiet_nil ?_; intro _ hw'; obtain ⟨nr, hw''⟩ := hw'; subst hw''
                    go_wp2
                    exact ⟨⟨i + 1, _, _, rfl, rfl, by omega, HS.out.1, HS.out.2.1, below_dws HS.out.2.2, HO⟩, by simp [intOf]; omega⟩
                · have b4 : (((p[k]'hlt).toNat : Int) == 95) = false := bfalse (byte95 (p[k]'hlt)) h4
                  by_cases h5 : (p[k]'hlt) = (s[i]'his)
                  · have b5 : (((p[k]'hlt).toNat : Int) == ((s[i]'his).toNat : Int)) = true := (byte_eq (p[k]'hlt) (s[i]'his)).2 h5
                    have HO : Hid _ := HX.out.put his hfi (.inr h5)
                    clear h4 h5 hfi
                    cases any
                    all_goals
                      go_wp2_with fail
                      refine wp_region_quiet_lit (by kernel_rfl) (by kernel_rfl) ?_; (repeat (first | go_big_quiet_step (fail) | (rw [b4]) | (rw [b5]))); refine wpQuiet_nil ?_; intro _ hw'; obtain ⟨nr, hw''⟩ := hw'; subst hw''
                      go_wp2
                      exact ⟨⟨i + 1, _, _, rfl, rfl, by omega, HS.out.1, HS.out.2.1, below_dws HS.out.2.2, HO⟩, by simp [intOf]; omega⟩
                  · have b5 : (((p[k]'hlt).toNat : Int) == ((s[i]'his).toNat : Int)) = false := bfalse (byte_eq (p[k]'hlt) (s[i]'his)) h5
                    have HO : Hid _ := STAY.out (fun _ _ h => h.elim h4 h5)
                    clear h4 h5 hfi
                    cases any
                    all_goals
                      go_wp2_with fail
                      refine wp_region_quiet_lit (by kernel_rfl) (by kernel_rfl) ?_; (repeat (first | go_big_quiet_step (fail) | (rw [b4]) | (rw [b5]))); refine wpQuiet_nil ?_; intro _ hw'; obtain ⟨nr, hw''⟩ := hw'; subst hw''
                      go_wp2
                      exact ⟨⟨i + 1, _, nx, rfl, rfl, by omega, HN, HG, below_dw HW.out, HO⟩, by simp [intOf]; omega⟩
              · have ks : ¬ (i : Int) < (s.size : Int) := by omega
                have HO : Hid _ := STAY.out (fun h => absurd h his)
                clear hfi
                cases any
                all_goals
                  go_wp2_with fail
                  refine wp_region_quiet_lit (by kernel_rfl) (by kernel_rfl) ?_; (repeat (first | go_big_quiet_step (fail) | (rw [b4]) | (rw [b5]))); refine wpQuiet_nil ?_; intro _ hw'; obtain ⟨nr, hw''⟩ := hw'; subst hw''
                  go_wp2
                  exact ⟨⟨i + 1, _, nx, rfl, rfl, by omega, HN, HG, below_dw HW.out, HO⟩, by simp [intOf]; omega⟩
          · obtain rfl : i = s.size + 1 := by omega
            have HE : Hid (∀ j, j ≤ s.size → (nx j = true ↔ Rch (L p) (L s) (k + 1) j)) := fun j hj => by
              cases j with
              | zero => exact ⟨(fun h => by rw [HX.out.1] at h; cases h), fun h => absurd h (Rch_one0 lp H3.out)⟩
              | succ j =>
                rw [HX.out.2.1 j (by omega) (by omega), Rch_one lp H3.out (by rw [L_len]; omega), HR.out j (by omega)]
                constructor
                · rintro ⟨h1, h2⟩; exact ⟨h2, h1⟩
                · rintro ⟨h1, h2⟩; exact ⟨h2, h1⟩
            go_wp2_with fail
            exact ⟨⟨k + 1, n, nx, rfl, rfl, by omega, zw, HN, HE, HW⟩, by simp [intOf]; omega⟩
    · obtain rfl : k = p.size := by omega
      have cN := HF.out.cell (show s.size < s.size + 1 by omega)
      have kN : (s.size : Int) < (s.size : Int) + 1 := by omega
      have kN0 : (0 : Int) ≤ (s.size : Int) := by omega
      have HE : Hid (f s.size = true ↔ M (L p) (L s)) := by
        show f s.size = true ↔ M (L p) (L s)
        rw [HR.out s.size (Nat.le_refl _), ← Rch_all, L_len, L_len]
      have HBW : Hid (Below w.heap.size w wr) := HB0.out.trans (HB.out.mono (by omega))
      go_wp2_with fail
      refine (rtruth _ _).mono ?_
      rintro e w' hh
      obtain ⟨rfl, hb⟩ := hh
      have HB2 : Hid (Below w.heap.size w w') := HBW.out.trans (hb.mono HBW.out.size)
      have rr : w'.heap[w.heap.size + 1 + 1]? = some (.cells #[.int .i64 0, .int .i64 0, .string ⟨#[]⟩] 23 (0, 0)) := by
        have z := HB.out.size
        have zz : w.heap.size + 1 + 1 < wr.heap.size := Nat.lt_of_lt_of_le (by simp) z
        refine (hb.block _ zz).trans ((HB.out.block _ (by omega)).trans ?_)
        have := heap_alloc_new ((w.alloc (.cells #[.int .i64 3, .int .i64 nA, .string s] 23)).alloc (.cells #[.int .i64 3, .int .i64 nB, .string p] 23)) (.cells #[.int .i64 0, .int .i64 0, .string ⟨#[]⟩] 23)
        rw [show ((w.alloc (.cells #[.int .i64 3, .int .i64 nA, .string s] 23)).alloc (.cells #[.int .i64 3, .int .i64 nB, .string p] 23)).heap.size = w.heap.size + 1 + 1 by simp] at this
        exact this
      have r0 : w'.cell? ⟨w.heap.size + 1 + 1, 0, none⟩ = some (.int .i64 0) := by simp [World.cell?, rr]
      have r1 : w'.cell? ⟨w.heap.size + 1 + 1, 1, none⟩ = some (.int .i64 0) := by simp [World.cell?, rr]
      have r2 : w'.cell? ⟨w.heap.size + 1 + 1, 2, none⟩ = some (.string ⟨#[]⟩) := by simp [World.cell?, rr]
      have q0 : w'.frozen? ⟨w.heap.size + 1 + 1, 0, none⟩ = false := by simp [World.frozen?, rr]
      have q1 : w'.frozen? ⟨w.heap.size + 1 + 1, 1, none⟩ = false := by simp [World.frozen?, rr]
      have q2 : w'.frozen? ⟨w.heap.size + 1 + 1, 2, none⟩ = false := by simp [World.frozen?, rr]
      clear hb rr
      go_wp2_with fail
      refine bodyPost_ret (v := (.agg #[.int .i64 (1), .int .i64 (bn (f s.size)), .string (⟨#[]⟩)])) (by simp [results, Tryd.results8, go_sem, *]) rfl ⟨_, rfl, HE.out, ?_⟩
      exact ((HB2.out.setCell (p := ⟨w.heap.size + 1 + 1, 0, none⟩) (by show w.heap.size ≤ w.heap.size + 1 + 1; omega) _).setCell (p := ⟨w.heap.size + 1 + 1, 1, none⟩) (by show w.heap.size ≤ w.heap.size + 1 + 1; omega) _).setCell (p := ⟨w.heap.size + 1 + 1, 2, none⟩) (by show w.heap.size ≤ w.heap.size + 1 + 1; omega) _
end Go.Proofs.YtmkfkjicfmllmaaDoor
