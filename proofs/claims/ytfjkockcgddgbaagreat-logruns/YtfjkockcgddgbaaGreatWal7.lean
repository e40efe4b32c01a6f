/- package wal: framed, Read -/
import Derived.Test.YtfjkockcgddgbaaGreatWal6
namespace Go.Proofs.YtfjkockcgddgbaaGreat
open Go.RowKit Go.Lib
attribute [local go_sem ↓] Go.wp_at_zero Go.wp_at_succ
theorem PDs.len {X : World} {B D : Nat} {S : DS} (h : PDs X B D S) (i : Nat) (hi : i < 4) : (S.lb i).length ≤ 67108864 := by obtain ⟨vb, vw, h⟩ := h; exact h.size i hi
def okM (F : Int → Option Int) : Prop := ∀ x v, F x = some v → 0 ≤ v ∧ v ≤ 1000000
set_option maxRecDepth 20000 in
set_option maxHeartbeats 1000000 in
theorem cframed0 (v : Int) (X : World) (B D G bp bf m : Nat) (L : LS) (S : DS) (h : PL X B D G bp bf m L S) (v0 : 0 ≤ v) (v1 : v ≤ 1000000) (q : ByteArray) (r : Int)
    (hR : ∀ W, PDs W B D S → Calls Tryz.prog 55 #[(.pointer (some ⟨D, 0, none⟩)), .int .i64 1, .int .i64 (64 + 1028 * v + 4), .int .i64 1024] W fun e w' => e = .returned (.tuple #[.string q, .int .i64 r]) ∧ w' = W) :
    Calls Tryz.prog 53 #[(.pointer (some ⟨G, 0, none⟩)), .int .i64 v] X fun e w' => e = .returned (.tuple #[.string q, .int .i64 r]) ∧ Below X.heap.size X w' := by
  obtain ⟨c0, c1, c2, c3, c4, c5, c6, c7⟩ := h.cells
  have HP : Hid (PDs X B D S) := h.dsk
  have HR : Hid _ := hR
  have V0 : Hid (0 ≤ v ∧ v ≤ 4294967296) := (⟨v0, by omega⟩ : 0 ≤ v ∧ v ≤ 4294967296)
  have hw1 : IntKind.i64.wrap (64 + 1028 * v + 4) = 64 + 1028 * v + 4 := by rw [IntKind.wrap_i64]; omega
  clear c1 c2 c3 c4 c5 c6 c7 h hR v0 v1
  obtain ⟨z, hz⟩ : ∃ z, z = 64 + 1028 * v := ⟨_, rfl⟩
  have HFA : Hid (∀ W, Calls Tryz.prog 57 #[.int .i64 v] W fun e w' => e = .returned (.int .i64 z) ∧ w' = W) := fun W => by rw [hz]; exact cframeAt v W V0.out.1 V0.out.2
  rw [← hz] at hw1 HR
  clear hz
  go_enter Tryz.func53, Tryz.ntmps53
  go_wp2_with fail
  go_region_with (first | (go_at_call 57; refine (HFA.out _).mono ?_; rintro e w3 ⟨rfl, hw⟩; rw [hw]; clear hw) | (go_at_call 55; refine (HR.out _ (HP.out.below ((Below.refl _ _).drew))).mono ?_; rintro e w4 ⟨rfl, hw⟩; rw [hw]; clear hw))
  all_goals
    go_wp2
    go_ret2
    exact ⟨rfl, (Below.refl _ _).drew⟩
theorem cframed (v : Int) (X : World) (B D G bp bf m : Nat) (L : LS) (S : DS) (h : PL X B D G bp bf m L S) (v0 : 0 ≤ v) (v1 : v ≤ 1000000) :
    Calls Tryz.prog 53 #[(.pointer (some ⟨G, 0, none⟩)), .int .i64 v] X fun e w' => e = .returned (.tuple #[.string (rdS 1 (64 + 1028 * v + 4) 1024 S.lb S.down), .int .i64 (rdE 1 (64 + 1028 * v + 4) 1024 S.lb S.down)]) ∧ Below X.heap.size X w' :=
  cframed0 v X B D G bp bf m L S h v0 v1 _ _ (fun W hW => creadD 1 (64 + 1028 * v + 4) 1024 W B D S hW)
/- the page that a log tells, and the error -/
def rdF (S : DS) (v : Int) : ByteArray × Int := (rdS 1 (64 + 1028 * v + 4) 1024 S.lb S.down, rdE 1 (64 + 1028 * v + 4) 1024 S.lb S.down)
def rdL (L : LS) (S : DS) (n : Int) : ByteArray × Int :=
  if ¬ isPg n = true then (⟨#[]⟩, 1)
  else match L.fh n with
    | some v => rdF S v
    | none => match L.pl n with
      | some v => rdF S v
      | none => if S.down then (⟨#[]⟩, 2) else if ((S.lb 0).length : Int) / 1024 ≤ n then (⟨#[]⟩, 7) else (rdS 0 (1024 * n) 1024 S.lb S.down, rdE 0 (1024 * n) 1024 S.lb S.down)
set_option maxRecDepth 20000 in
set_option maxHeartbeats 1000000 in
theorem creadL (n : Int) (X : World) (B D G bp bf m : Nat) (L : LS) (S : DS) (h : PL X B D G bp bf m L S) (hp : okM L.pl) (hf : okM L.fh) :
    Calls Tryz.prog 11 #[(.pointer (some ⟨G, 0, none⟩)), .int .i64 n] X fun e w' => e = .returned (.tuple #[.string (rdL L S n).1, .int .i64 (rdL L S n).2]) ∧ Below X.heap.size X w' := by
  by_cases h1 : isPg n = true
  · have hn := of_decide_eq_true h1
    have i64n : i64 n := i64_in (by omega) (by omega)
    have kf := h.mf.look i64n
    have kp := h.mp.look i64n
    have HI : Hid (isPg n = true) := h1
    have HPL : Hid (PL X B D G bp bf m L S) := h
    obtain ⟨c0, c1, c2, c3, c4, c5, c6, c7⟩ := h.cells
    clear c1 c2 c3 c4 c5
    cases hF : L.fh n with
    | some v =>
      have HE : Hid (rdL L S n = rdF S v) := by
        show rdL L S n = rdF S v
        unfold rdL
        rw [if_neg (fun h => h h1), hF]
      have HV : Hid (0 ≤ v ∧ v ≤ 1000000) := hf n v hF
      rw [hF] at kf
      have kf' : (Instr.lookup 94 (.map (some bf)) (.int .i64 n) true).run Tryz.prog X = .ok (.tuple #[.int .i64 v, .bool true]) X := kf
      clear kf kp hF h h1 hp hf
      obtain ⟨q, r, hqr⟩ : ∃ q r, rdF S v = (q, r) := ⟨_, _, rfl⟩
      have HC : Hid (∀ W, PL W B D G bp bf m L S → Calls Tryz.prog 53 #[(.pointer (some ⟨G, 0, none⟩)), .int .i64 v] W fun e w' => e = .returned (.tuple #[.string q, .int .i64 r]) ∧ Below W.heap.size W w') := fun W hW => by
        have := cframed v W B D G bp bf m L S hW HV.out.1 HV.out.2
        have e1 : rdS 1 (64 + 1028 * v + 4) 1024 S.lb S.down = q := congrArg Prod.fst hqr
        have e2 : rdE 1 (64 + 1028 * v + 4) 1024 S.lb S.down = r := congrArg Prod.snd hqr
        rw [e1, e2] at this
        exact this
      rw [HE.out, hqr]
      clear hqr HE
      go_enter Tryz.func11, Tryz.ntmps11
      go_wp2_with fail
      refine (cisPage n _).mono ?_
      rintro e w1 ⟨rfl, hw⟩; rw [hw]; clear hw
      rw [HI.out]
      go_wp2_with fail
      refine (HC.out _ HPL.out).mono ?_
      rintro e w2 ⟨rfl, hb2⟩
      go_wp2
      go_ret2
      exact ⟨rfl, hb2⟩
    | none =>
      rw [hF] at kf
      have kf' : (Instr.lookup 94 (.map (some bf)) (.int .i64 n) true).run Tryz.prog X = .ok (.tuple #[.int .i64 0, .bool false]) X := kf
      cases hQ : L.pl n with
      | some v =>
        have HE : Hid (rdL L S n = rdF S v) := by
          show rdL L S n = rdF S v
          unfold rdL
          rw [if_neg (fun h => h h1), hF]
          show (match L.pl n with | some v => rdF S v | none => _) = _
          rw [hQ]
        have HV : Hid (0 ≤ v ∧ v ≤ 1000000) := hp n v hQ
        rw [hQ] at kp
        have kp' : (Instr.lookup 94 (.map (some bp)) (.int .i64 n) true).run Tryz.prog X = .ok (.tuple #[.int .i64 v, .bool true]) X := kp
        clear kf kp hF hQ h h1 hp hf
        obtain ⟨q, r, hqr⟩ : ∃ q r, rdF S v = (q, r) := ⟨_, _, rfl⟩
        have HC : Hid (∀ W, PL W B D G bp bf m L S → Calls Tryz.prog 53 #[(.pointer (some ⟨G, 0, none⟩)), .int .i64 v] W fun e w' => e = .returned (.tuple #[.string q, .int .i64 r]) ∧ Below W.heap.size W w') := fun W hW => by
          have := cframed v W B D G bp bf m L S hW HV.out.1 HV.out.2
          have e1 : rdS 1 (64 + 1028 * v + 4) 1024 S.lb S.down = q := congrArg Prod.fst hqr
          have e2 : rdE 1 (64 + 1028 * v + 4) 1024 S.lb S.down = r := congrArg Prod.snd hqr
          rw [e1, e2] at this
          exact this
        rw [HE.out, hqr]
        clear hqr HE
        go_enter Tryz.func11, Tryz.ntmps11
        go_wp2_with fail
        refine (cisPage n _).mono ?_
        rintro e w1 ⟨rfl, hw⟩; rw [hw]; clear hw
        rw [HI.out]
        go_wp2_with fail
        refine (HC.out _ HPL.out).mono ?_
        rintro e w2 ⟨rfl, hb2⟩
        go_wp2
        go_ret2
        exact ⟨rfl, hb2⟩
      | none =>
        rw [hQ] at kp
        have kp' : (Instr.lookup 94 (.map (some bp)) (.int .i64 n) true).run Tryz.prog X = .ok (.tuple #[.int .i64 0, .bool false]) X := kp
        have HE : Hid (rdL L S n = if S.down then (⟨#[]⟩, 2) else if ((S.lb 0).length : Int) / 1024 ≤ n then (⟨#[]⟩, 7) else (rdS 0 (1024 * n) 1024 S.lb S.down, rdE 0 (1024 * n) 1024 S.lb S.down)) := by
          show rdL L S n = _
          unfold rdL
          rw [if_neg (fun h => h h1), hF]
          show (match L.pl n with | some v => rdF S v | none => _) = _
          rw [hQ]
        have n0 := hn.1
        have n1 := hn.2
        clear kf kp hF hQ h h1 hp hf hn
        cases hd : S.down with
        | true =>
          have ea : askE 0 0 0 S.down = 2 := by rw [hd]; rfl
          have es : sizV 0 S.lb S.down = 0 := by unfold sizV; rw [ea]; rfl
          have HA : Hid _ := ea
          have HS : Hid _ := es
          have HR : Hid (rdL L S n = (⟨#[]⟩, 2)) := HE.out.trans (by rw [hd]; rfl)
          rw [HR.out]
          clear HE ea es hd HR
          go_enter Tryz.func11, Tryz.ntmps11
          go_wp2_with fail
          refine (cisPage n _).mono ?_
          rintro e w1 ⟨rfl, hw⟩; rw [hw]; clear hw
          rw [HI.out]
          go_wp2_with fail
          refine (csizeD 0 _ B D S HPL.out.dsk).mono ?_
          rintro e w2 ⟨rfl, hw⟩; rw [hw]; clear hw
          rw [HA.out, HS.out]
          go_wp2
          go_ret2
          exact ⟨rfl, Below.refl _ _⟩
        | false =>
          have ea : askE 0 0 0 S.down = 0 := by rw [hd]; rfl
          have es : sizV 0 S.lb S.down = ((S.lb 0).length : Int) := by unfold sizV; rw [if_pos ea]; rfl
          have HA : Hid _ := ea
          have HS : Hid _ := es
          by_cases hl : ((S.lb 0).length : Int) / 1024 ≤ n
          · have HR : Hid (rdL L S n = (⟨#[]⟩, 7)) := HE.out.trans (by rw [hd, if_neg (by decide), if_pos hl])
            rw [HR.out]
            clear HE ea es hd HR
            go_enter Tryz.func11, Tryz.ntmps11
            go_wp2_with fail
            refine (cisPage n _).mono ?_
            rintro e w1 ⟨rfl, hw⟩; rw [hw]; clear hw
            rw [HI.out]
            go_wp2_with fail
            refine (csizeD 0 _ B D S HPL.out.dsk).mono ?_
            rintro e w2 ⟨rfl, hw⟩; rw [hw]; clear hw
            rw [HA.out, HS.out]
            go_wp2
            go_ret2
            exact ⟨rfl, Below.refl _ _⟩
          · obtain ⟨q, hq⟩ : ∃ q, q = rdS 0 (1024 * n) 1024 S.lb S.down := ⟨_, rfl⟩
            obtain ⟨r, hr⟩ : ∃ r, r = rdE 0 (1024 * n) 1024 S.lb S.down := ⟨_, rfl⟩
            have HR : Hid (rdL L S n = (q, r)) := HE.out.trans (by rw [hq, hr, hd, if_neg (by decide), if_neg hl])
            have HC : Hid (∀ W, PDs W B D S → Calls Tryz.prog 55 #[(.pointer (some ⟨D, 0, none⟩)), .int .i64 0, .int .i64 (1024 * n), .int .i64 1024] W fun e w' => e = .returned (.tuple #[.string q, .int .i64 r]) ∧ w' = W) := fun W hW => by rw [hq, hr]; exact creadD 0 (1024 * n) 1024 W B D S hW
            have hl' : decide (((S.lb 0).length : Int) / 1024 ≤ n) = false := decide_eq_false hl
            have hlen := HPL.out.dsk.len 0 (by decide)
            have hw2 : wrap64 (((S.lb 0).length : Int) / 1024) = ((S.lb 0).length : Int) / 1024 := by unfold wrap64; omega
            have hw1 : IntKind.i64.wrap (1024 * n) = 1024 * n := by rw [IntKind.wrap_i64]; omega
            rw [HR.out]
            clear HE ea es hd HR hq hr hl
            go_enter Tryz.func11, Tryz.ntmps11
            go_wp2_with fail
            refine (cisPage n _).mono ?_
            rintro e w1 ⟨rfl, hw⟩; rw [hw]; clear hw
            rw [HI.out]
            go_wp2_with fail
            refine (csizeD 0 _ B D S HPL.out.dsk).mono ?_
            rintro e w2 ⟨rfl, hw⟩; rw [hw]; clear hw
            rw [HA.out, HS.out]
            go_wp2_with fail
            refine (HC.out _ HPL.out.dsk).mono ?_
            rintro e w3 ⟨rfl, hw⟩; rw [hw]; clear hw
            go_wp2
            go_ret2
            exact ⟨rfl, Below.refl _ _⟩
  · have HE : Hid (rdL L S n = (⟨#[]⟩, 1)) := if_pos h1
    have hI : isPg n = false := by simpa using h1
    have HI : Hid (isPg n = false) := hI
    rw [HE.out]
    clear h h1 hp hf HE hI
    go_enter Tryz.func11, Tryz.ntmps11
    go_wp2_with fail
    refine (cisPage n _).mono ?_
    rintro e w1 ⟨rfl, hw⟩; rw [hw]; clear hw
    rw [HI.out]
    go_wp2
    go_ret2
    exact ⟨rfl, Below.refl _ _⟩
end Go.Proofs.YtfjkockcgddgbaaGreat
