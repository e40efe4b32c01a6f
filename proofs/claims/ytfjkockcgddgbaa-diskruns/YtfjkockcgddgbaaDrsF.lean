/- relstorelaw.disks: Write, Cut, Sync keep the relation -/
import Derived.Test.YtfjkockcgddgbaaDrsE
namespace Go.Proofs.Ytfjkockcgddgbaa
open Go.RowKit Go.Lib
theorem ask_not {f at' n : Int} {down : Bool} (h : fitsD f at' n = false) : askE f at' n down = 1 := by unfold askE; rw [h]; rfl
theorem ask_dn {f at' n : Int} (h : fitsD f at' n = true) : askE f at' n true = 2 := by unfold askE; rw [h]; rfl
theorem ask_up {f at' n : Int} (h : fitsD f at' n = true) : askE f at' n false = 0 := by unfold askE; rw [h]; rfl
theorem DRS.toDR {X : World} {B D R m : Nat} {vb : Nat → Value} {vw : Value} {lb : Nat → List UInt8} {ws : List Chg} {left count : Int} {down : Bool} {l0 l1 : ByteArray} {vw' : Value} (h : DRS X B D R m vb vw lb ws left count down l0 l1 vw') {w : World} {down' : Bool}
    (hP : PD w B D vb vw lb ws left count down') (hR : RD w B R l0 l1 vw' ws (nrm left) count down') : DR w B D R (m + 1) :=
  ⟨_, _, _, _, _, _, _, _, _, _, hP, hR, h.e1, h.e3, h.sees, Nat.le_succ_of_le h.len, ⟨h.cnt.1, by have := h.cnt.2; omega⟩, h.lft⟩
theorem op_cases (fi ai : Int) (t : ByteArray) (c : Bool) {X : World} {B D R m : Nat} {vb : Nat → Value} {vw : Value} {lb : Nat → List UInt8} {ws : List Chg} {left count : Int} {down : Bool} {l0 l1 : ByteArray} {vw' : Value} (h : DRS X B D R m vb vw lb ws left count down l0 l1 vw') :
    ∃ (E : Int) (Pq Rq : World → Prop), (∀ w w', Pq w → BelT tyR B w w' → Pq w') ∧ (∀ w w', Rq w → BelT tyP B w w' → Rq w') ∧
      (∀ w e w', PD w B D vb vw lb ws left count down → opPost fi ai t c w B D vb vw lb ws left count down e w' → e = .returned (.int .i64 E) ∧ Pq w' ∧ BelT tyP B w w') ∧
      (∀ w e w', RD w B R l0 l1 vw' ws (nrm left) count down → ropPost fi ai t c w B R l0 l1 vw' ws (nrm left) count down e w' → e = .returned (.int .i64 E) ∧ Rq w' ∧ BelT tyR B w w') ∧
      (∀ w, Pq w → Rq w → DR w B D R (m + 1)) := by
  cases hf : fitsD fi ai t.size with
  | false =>
    refine ⟨1, fun w => PD w B D vb vw lb ws left count down, fun w => RD w B R l0 l1 vw' ws (nrm left) count down, fun w w' h hb => h.belR hb, fun w w' h hb => h.belP hb, ?_, ?_, fun w hp hr => h.toDR hp hr⟩
    · intro w e w' hP hp
      have ea := ask_not (down := down) hf
      rcases hp with ⟨h1, rfl, rfl⟩ | ⟨h1, _⟩ | ⟨h1, _⟩
      · exact ⟨by rw [ea], hP, BelT.refl _ _ _⟩
      · rw [ea] at h1; cases h1
      · rw [ea] at h1; cases h1
    · intro w e w' hR hp
      rcases hp with ⟨h1, rfl, rfl⟩ | ⟨h1, _⟩ | ⟨h1, _⟩
      · exact ⟨rfl, hR, BelT.refl _ _ _⟩
      · rw [hf] at h1; cases h1
      · rw [hf] at h1; cases h1
  | true =>
    cases down with
    | true =>
      refine ⟨2, fun w => PD w B D vb vw lb ws left count true, fun w => RD w B R l0 l1 vw' ws (nrm left) count true, fun w w' h hb => h.belR hb, fun w w' h hb => h.belP hb, ?_, ?_, fun w hp hr => h.toDR hp hr⟩
      · intro w e w' hP hp
        have ea := ask_dn hf
        rcases hp with ⟨h1, rfl, rfl⟩ | ⟨h1, _⟩ | ⟨h1, _⟩
        · exact ⟨by rw [ea], hP, BelT.refl _ _ _⟩
        · rw [ea] at h1; cases h1
        · rw [ea] at h1; cases h1
      · intro w e w' hR hp
        rcases hp with ⟨h1, _⟩ | ⟨_, _, rfl, h2, h3⟩ | ⟨_, h1, _⟩
        · rw [hf] at h1; cases h1
        · exact ⟨rfl, h2, h3⟩
        · cases h1
    | false =>
      by_cases h0 : left = 0
      · refine ⟨2, fun w => PD w B D vb vw lb ws left count true, fun w => RD w B R l0 l1 vw' ws (nrm left) count true, fun w w' h hb => h.belR hb, fun w w' h hb => h.belP hb, ?_, ?_, fun w hp hr => h.toDR hp hr⟩
        · intro w e w' hP hp
          have ea := ask_up hf
          rcases hp with ⟨h1, _⟩ | ⟨_, _, rfl, h2, h3⟩ | ⟨_, h1, _⟩
          · exact absurd ea h1
          · exact ⟨rfl, h2, h3⟩
          · exact absurd h0 h1
        · intro w e w' hR hp
          rcases hp with ⟨h1, _⟩ | ⟨_, _, rfl, h2, h3⟩ | ⟨_, _, h1, _⟩
          · rw [hf] at h1; cases h1
          · exact ⟨rfl, h2, h3⟩
          · exact absurd ((nrm_zero left).2 h0) h1
      · obtain ⟨f', p, rfl, rfl, hf2, -, -⟩ := fits_nat hf
        refine ⟨0, fun w => ∃ vb' vw2, PD w B D vb' vw2 (updF lb (2 * f') (onL p t c (lb (2 * f')))) (ws ++ [⟨f', p, t, c⟩]) (decL left) (count + 1) false, fun w => ∃ vwr, RD w B R l0 l1 vwr (ws ++ [⟨f', p, t, c⟩]) (decL (nrm left)) (count + 1) false, fun w w' ⟨a, b, h⟩ hb => ⟨a, b, h.belR hb⟩, fun w w' ⟨a, h⟩ hb => ⟨a, h.belP hb⟩, ?_, ?_, fun w ⟨a, b, hp⟩ ⟨d, hr⟩ => DR.op hf2 hp hr h.e1 h.e3 h.sees h.len h.cnt h.lft⟩
        · intro w e w' hP hp
          have ea := ask_up hf
          rcases hp with ⟨h1, _⟩ | ⟨_, h1, _⟩ | ⟨_, _, rfl, ⟨f2, p2, v', vw2, e1, e2, _, h2⟩, h3⟩
          · exact absurd ea h1
          · exact absurd h1 h0
          · obtain rfl : f' = f2 := by omega
            obtain rfl : p = p2 := by omega
            exact ⟨rfl, ⟨_, _, h2⟩, h3⟩
        · intro w e w' hR hp
          rcases hp with ⟨h1, _⟩ | ⟨_, h1, _⟩ | ⟨_, _, _, rfl, ⟨f2, p2, vw2, e1, e2, _, h2⟩, h3⟩
          · rw [hf] at h1; cases h1
          · rcases h1 with h1 | h1
            · cases h1
            · exact absurd ((nrm_zero left).1 h1) h0
          · obtain rfl : f' = f2 := by omega
            obtain rfl : p = p2 := by omega
            exact ⟨rfl, ⟨_, h2⟩, h3⟩
theorem syn_cases (fi : Int) {X : World} {B D R m : Nat} {vb : Nat → Value} {vw : Value} {lb : Nat → List UInt8} {ws : List Chg} {left count : Int} {down : Bool} {l0 l1 : ByteArray} {vw' : Value} (h : DRS X B D R m vb vw lb ws left count down l0 l1 vw') :
    ∃ (E : Int) (Pq Rq : World → Prop), (∀ w w', Pq w → BelT tyR B w w' → Pq w') ∧ (∀ w w', Rq w → BelT tyP B w w' → Rq w') ∧
      (∀ w e w', PD w B D vb vw lb ws left count down → synPost fi w B D vb vw lb ws left count down e w' → e = .returned (.int .i64 E) ∧ Pq w' ∧ BelT tyP B w w') ∧
      (∀ w e w', RD w B R l0 l1 vw' ws (nrm left) count down → rsynPost fi w B R l0 l1 vw' ws (nrm left) count down e w' → e = .returned (.int .i64 E) ∧ Rq w' ∧ BelT tyR B w w') ∧
      (∀ w, Pq w → Rq w → DR w B D R (m + 1)) := by
  cases hf : fitsD fi 0 0 with
  | false =>
    refine ⟨1, fun w => PD w B D vb vw lb ws left count down, fun w => RD w B R l0 l1 vw' ws (nrm left) count down, fun w w' h hb => h.belR hb, fun w w' h hb => h.belP hb, ?_, ?_, fun w hp hr => h.toDR hp hr⟩
    · intro w e w' hP hp
      have ea := ask_not (down := down) hf
      rcases hp with ⟨h1, rfl, rfl⟩ | ⟨h1, _⟩ | ⟨h1, _⟩
      · exact ⟨by rw [ea], hP, BelT.refl _ _ _⟩
      · rw [ea] at h1; cases h1
      · rw [ea] at h1; cases h1
    · intro w e w' hR hp
      rcases hp with ⟨h1, rfl, rfl⟩ | ⟨h1, _⟩ | ⟨h1, _⟩
      · exact ⟨rfl, hR, BelT.refl _ _ _⟩
      · rw [hf] at h1; cases h1
      · rw [hf] at h1; cases h1
  | true =>
    cases down with
    | true =>
      refine ⟨2, fun w => PD w B D vb vw lb ws left count true, fun w => RD w B R l0 l1 vw' ws (nrm left) count true, fun w w' h hb => h.belR hb, fun w w' h hb => h.belP hb, ?_, ?_, fun w hp hr => h.toDR hp hr⟩
      · intro w e w' hP hp
        have ea := ask_dn hf
        rcases hp with ⟨h1, rfl, rfl⟩ | ⟨h1, _⟩ | ⟨h1, _⟩
        · exact ⟨by rw [ea], hP, BelT.refl _ _ _⟩
        · rw [ea] at h1; cases h1
        · rw [ea] at h1; cases h1
      · intro w e w' hR hp
        rcases hp with ⟨h1, _⟩ | ⟨_, _, rfl, h2, h3⟩ | ⟨_, h1, _⟩
        · rw [hf] at h1; cases h1
        · exact ⟨rfl, h2, h3⟩
        · cases h1
    | false =>
      by_cases h0 : left = 0
      · refine ⟨2, fun w => PD w B D vb vw lb ws left count true, fun w => RD w B R l0 l1 vw' ws (nrm left) count true, fun w w' h hb => h.belR hb, fun w w' h hb => h.belP hb, ?_, ?_, fun w hp hr => h.toDR hp hr⟩
        · intro w e w' hP hp
          have ea := ask_up hf
          rcases hp with ⟨h1, _⟩ | ⟨_, _, rfl, h2, h3⟩ | ⟨_, h1, _⟩
          · exact absurd ea h1
          · exact ⟨rfl, h2, h3⟩
          · exact absurd h0 h1
        · intro w e w' hR hp
          rcases hp with ⟨h1, _⟩ | ⟨_, _, rfl, h2, h3⟩ | ⟨_, _, h1, _⟩
          · rw [hf] at h1; cases h1
          · exact ⟨rfl, h2, h3⟩
          · exact absurd ((nrm_zero left).2 h0) h1
      · obtain ⟨f', p, rfl, -, hf2, -, -⟩ := fits_nat hf
        refine ⟨0, fun w => ∃ vb' vw2, PD w B D vb' vw2 (updF lb (2 * f' + 1) (foldF f' ws (lb (2 * f' + 1)))) (othF f' ws) (decL left) (count + 1) false, fun w => ∃ l0' l1' vwr, RD w B R l0' l1' vwr (othF f' ws) (decL (nrm left)) (count + 1) false ∧ (f' = 0 → ll l0' = foldF 0 ws (ll l0) ∧ l1' = l1) ∧ (f' = 1 → l0' = l0 ∧ ll l1' = foldF 1 ws (ll l1)), fun w w' ⟨a, b, h⟩ hb => ⟨a, b, h.belR hb⟩, fun w w' ⟨a, b, d, h, h'⟩ hb => ⟨a, b, d, h.belP hb, h'⟩, ?_, ?_, fun w ⟨a, b, hp⟩ ⟨_, _, d, hr, k0, k1⟩ => DR.syn hf2 hp hr k0 k1 h.e1 h.e3 h.sees h.len h.cnt h.lft⟩
        · intro w e w' hP hp
          have ea := ask_up hf
          rcases hp with ⟨h1, _⟩ | ⟨_, h1, _⟩ | ⟨_, _, rfl, ⟨f2, v', vw2, e1, _, h2⟩, h3⟩
          · exact absurd ea h1
          · exact absurd h1 h0
          · obtain rfl : f' = f2 := by omega
            exact ⟨rfl, ⟨_, _, h2⟩, h3⟩
        · intro w e w' hR hp
          rcases hp with ⟨h1, _⟩ | ⟨_, h1, _⟩ | ⟨_, _, _, rfl, ⟨f2, l0', l1', vw2, e1, _, h2, k0, k1⟩, h3⟩
          · rw [hf] at h1; cases h1
          · rcases h1 with h1 | h1
            · cases h1
            · exact absurd ((nrm_zero left).1 h1) h0
          · obtain rfl : f' = f2 := by omega
            exact ⟨rfl, ⟨_, _, _, h2, k0, k1⟩, h3⟩
theorem cnt_ok {X : World} {B D R m : Nat} {vb : Nat → Value} {vw : Value} {lb : Nat → List UInt8} {ws : List Chg} {left count : Int} {down : Bool} {l0 l1 : ByteArray} {vw' : Value} (h : DRS X B D R m vb vw lb ws left count down l0 l1 vw') (hm : m ≤ 1000) : (0 ≤ count ∧ count ≤ 4611686018427387904) ∧ ws.length ≤ 1000000 := by
  have h1 := h.cnt
  have h2 := h.len
  omega
theorem ldisks2 (fi ai ni : Int) (s t : ByteArray) (kv cv : Value) (X : World) (B D R m : Nat) (hm : m ≤ 1000) (h : DR X B D R m) :
    Calls Try.prog 8 #[(.pointer (some ⟨D, 0, none⟩)), (.pointer (some ⟨R, 0, none⟩)), (.agg #[.int .i64 2, .int .i64 fi, .int .i64 ai, .int .i64 ni, .string s, .string t, kv, cv])] X fun e w' => e = .returned (.bool true) ∧ DR w' B D R (m + 1) ∧ Below B X w' := by
  obtain ⟨vb, vw, lb, ws, left, count, down, l0, l1, vw', h⟩ := h
  obtain ⟨hc, hw⟩ := cnt_ok h hm
  obtain ⟨E, Pq, Rq, h1, h2, h3, h4, h5⟩ := op_cases fi ai s false h
  refine (ldisks2G fi ai ni s t kv cv X B D R h.low E (fun w => PD w B D vb vw lb ws left count down) Pq (fun w => RD w B R l0 l1 vw' ws (nrm left) count down) Rq (fun w hb => h.pd.below hb) (fun w hb => h.rd.below hb) ?_ ?_ (fun w w' hp hb => hp.belR hb) h1 (fun w w' hr hb => hr.belP hb) h2).mono fun e w' ⟨he, hpr, hb⟩ => ⟨he, h5 w' hpr.1 hpr.2, hb⟩
  · intro w hB hP
    exact (cwrite fi ai s w B D vb vw lb ws left count down hP hB h.lft hc hw).mono fun e w' hh => h3 w e w' hP hh
  · intro w hB hR
    exact (rwrite fi ai s w B R l0 l1 vw' ws (nrm left) count down hR hB (nrm_bounds h.lft) hc hw).mono fun e w' hh => h4 w e w' hR hh
theorem ldisks3 (fi ai ni : Int) (s t : ByteArray) (kv cv : Value) (X : World) (B D R m : Nat) (hm : m ≤ 1000) (h : DR X B D R m) :
    Calls Try.prog 8 #[(.pointer (some ⟨D, 0, none⟩)), (.pointer (some ⟨R, 0, none⟩)), (.agg #[.int .i64 3, .int .i64 fi, .int .i64 ai, .int .i64 ni, .string s, .string t, kv, cv])] X fun e w' => e = .returned (.bool true) ∧ DR w' B D R (m + 1) ∧ Below B X w' := by
  obtain ⟨vb, vw, lb, ws, left, count, down, l0, l1, vw', h⟩ := h
  obtain ⟨hc, hw⟩ := cnt_ok h hm
  obtain ⟨E, Pq, Rq, h1, h2, h3, h4, h5⟩ := op_cases fi ai ⟨#[]⟩ true h
  refine (ldisks3G fi ai ni s t kv cv X B D R h.low E (fun w => PD w B D vb vw lb ws left count down) Pq (fun w => RD w B R l0 l1 vw' ws (nrm left) count down) Rq (fun w hb => h.pd.below hb) (fun w hb => h.rd.below hb) ?_ ?_ (fun w w' hp hb => hp.belR hb) h1 (fun w w' hr hb => hr.belP hb) h2).mono fun e w' ⟨he, hpr, hb⟩ => ⟨he, h5 w' hpr.1 hpr.2, hb⟩
  · intro w hB hP
    exact (ccut fi ai w B D vb vw lb ws left count down hP hB h.lft hc hw).mono fun e w' hh => h3 w e w' hP hh
  · intro w hB hR
    exact (rcut fi ai w B R l0 l1 vw' ws (nrm left) count down hR hB (nrm_bounds h.lft) hc hw).mono fun e w' hh => h4 w e w' hR hh
theorem ldisks5 (fi ai ni : Int) (s t : ByteArray) (kv cv : Value) (X : World) (B D R m : Nat) (hm : m ≤ 1000) (h : DR X B D R m) :
    Calls Try.prog 8 #[(.pointer (some ⟨D, 0, none⟩)), (.pointer (some ⟨R, 0, none⟩)), (.agg #[.int .i64 5, .int .i64 fi, .int .i64 ai, .int .i64 ni, .string s, .string t, kv, cv])] X fun e w' => e = .returned (.bool true) ∧ DR w' B D R (m + 1) ∧ Below B X w' := by
  obtain ⟨vb, vw, lb, ws, left, count, down, l0, l1, vw', h⟩ := h
  obtain ⟨hc, hw⟩ := cnt_ok h hm
  obtain ⟨E, Pq, Rq, h1, h2, h3, h4, h5⟩ := syn_cases fi h
  refine (ldisks5G fi ai ni s t kv cv X B D R h.low E (fun w => PD w B D vb vw lb ws left count down) Pq (fun w => RD w B R l0 l1 vw' ws (nrm left) count down) Rq (fun w hb => h.pd.below hb) (fun w hb => h.rd.below hb) ?_ ?_ (fun w w' hp hb => hp.belR hb) h1 (fun w w' hr hb => hr.belP hb) h2).mono fun e w' ⟨he, hpr, hb⟩ => ⟨he, h5 w' hpr.1 hpr.2, hb⟩
  · intro w hB hP
    exact (csync fi w B D vb vw lb ws left count down hP hB h.lft hc hw).mono fun e w' hh => h3 w e w' hP hh
  · intro w hB hR
    exact (rsync fi w B R l0 l1 vw' ws (nrm left) count down hR hB (nrm_bounds h.lft) hc hw).mono fun e w' hh => h4 w e w' hR hh
end Go.Proofs.Ytfjkockcgddgbaa
