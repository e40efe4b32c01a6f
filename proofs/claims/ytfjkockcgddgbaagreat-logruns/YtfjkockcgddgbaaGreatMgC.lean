/- relstorelaw: num, files -/
import Derived.Test.YtfjkockcgddgbaaGreatDrsA
import Derived.Test.YtfjkockcgddgbaaGreatMgB
import Derived.Test.YtfjkockcgddgbaaGreatDskY
import Derived.Test.YtfjkockcgddgbaaGreatMgA
import Derived.ProofKit
import Derived.OpenShut
import Derived.ChangeSlices
import Derived.Deep.Slices
import Derived.Deep.Strs
import Derived.SizedLaws
namespace Go.Proofs.YtfjkockcgddgbaaGreat
open Go.RowKit Go.Lib
attribute [local go_sem ↓] Go.wp_at_zero Go.wp_at_succ
set_option maxHeartbeats 600000 in
theorem dnum (z : Int) (w : World) :
    Calls Tryz.prog 9 #[.int .i64 z] w fun e w' => e = .returned (.int .i64 z) ∧ w' = w := by
  go_enter Tryz.func9, Tryz.ntmps9
  go_wp2
  go_ret
  exact ⟨rfl, rfl⟩
theorem ask_file {f : Nat} (hf : f < 2) (down : Bool) : askE f 0 0 down = if down then 2 else 0 := by
  unfold askE
  rw [if_pos (by unfold fitsD; exact decide_eq_true (by omega))]
theorem siz_file {f : Nat} (hf : f < 2) (lb : Nat → List UInt8) : sizV f lb false = ((lb (2 * f)).length : Int) := by
  unfold sizV
  rw [ask_file hf, if_pos (by decide), Int.toNat_natCast]
theorem ask_whole {f n : Nat} (hf : f < 2) (hn : n ≤ 67108864) : askE f 0 n false = 0 := by
  unfold askE
  rw [if_pos (by unfold fitsD; exact decide_eq_true (by omega))]; rfl
theorem rdE_whole {f : Nat} (hf : f < 2) (lb : Nat → List UInt8) (hn : (lb (2 * f)).length ≤ 67108864) : rdE f 0 ((lb (2 * f)).length : Int) lb false = 0 := by
  unfold rdE
  rw [ask_whole hf hn, if_pos rfl, Int.toNat_natCast, if_neg (by omega)]
theorem rdS_whole {f : Nat} (hf : f < 2) (lb : Nat → List UInt8) (hn : (lb (2 * f)).length ≤ 67108864) {y : ByteArray} (hy : ll y = lb (2 * f)) : rdS f 0 ((lb (2 * f)).length : Int) lb false = y := by
  unfold rdS
  rw [rdE_whole hf lb hn, if_pos rfl]
  apply ll_inj
  show ((lb (2 * (f : Int).toNat)).drop (0 : Int).toNat).take ((lb (2 * f)).length : Int).toNat = ll y
  rw [Int.toNat_natCast, Int.toNat_natCast, hy]
  show ((lb (2 * f)).drop 0).take (lb (2 * f)).length = lb (2 * f)
  rw [List.drop_zero, List.take_length]
set_option maxRecDepth 20000 in
set_option maxHeartbeats 1000000 in
theorem lfiles (X : World) (B D R m : Nat) (hm : m ≤ 1000000) (h : DR X B D R m) :
    Calls Tryz.prog 30 #[(.pointer (some ⟨D, 0, none⟩)), (.pointer (some ⟨R, 0, none⟩))] X fun e w' => e = .returned (.bool true) ∧ Below X.heap.size X w' := by
  obtain ⟨vb, vw, lb, ws, left, count, down, l0, l1, vw', h⟩ := h
  have H : Hid (DRS X B D R m vb vw lb ws left count down l0 l1 vw') := h
  have hlen := h.len
  have hw : ws.length ≤ 1000000 := by omega
  clear h
  go_enter Tryz.func30, Tryz.ntmps30
  go_wp2_with fail
  go_loopw [5] (fun u w => ∃ (f : Nat), u = .int .i64 f ∧ f ≤ 2 ∧ Hid (Below X.heap.size X w)) (fun u _ => 2 - (intOf u).toNat)
  case atStart => exact ⟨0, rfl, by omega, Below.refl _ _⟩
  case round =>
    obtain ⟨f, rfl, hf, HB⟩ := hrel
    have HQ : Hid _ := H.out.below HB.out
    by_cases hlt : f < 2
    · have k1 : (f : Int) < 2 := by omega
      have zb := HB.out.size
      cases down
      · have hsz := HQ.out.pd.size (2 * f) (by omega)
        have eA : askE f 0 0 false = 0 := ask_file hlt false
        have eS := siz_file hlt lb
        have eR := rdE_whole hlt lb hsz
        have HT : Hid (∀ y, ll y = lb (2 * f) → rdS f 0 ((lb (2 * f)).length : Int) lb false = y) := fun y hy => rdS_whole hlt lb hsz hy
        go_wp2_with fail
        refine (rseen f hlt _ B R l0 l1 vw' ws _ _ false HQ.out.rd hw lb HQ.out.sees).mono ?_
        rintro e w2 ⟨y, rfl, hy, hb⟩
        have HB2 : Hid (Below X.heap.size X w2) := HB.out.trans (hb.mono zb)
        have HQ2 : Hid _ := HQ.out.below hb
        have hlen : ((lb (2 * f)).length : Int) = (y.size : Int) := by rw [← hy, ll_len]
        have eT := HT.out y hy
        rw [hlen] at eS eR eT
        clear hb hy HB HQ HT
        go_wp2_with fail
        refine (csize f w2 B D vb vw lb ws left count false HQ2.out.pd).mono ?_
        rintro e w3 ⟨rfl, rfl⟩
        rw [eS, eA]
        obtain ⟨-, -, -, -, r4, -⟩ := HQ2.out.rd.cells
        go_wp2_with fail
        refine (cread f 0 y.size w3 B D vb vw lb ws left count false HQ2.out.pd).mono ?_
        rintro e w4 ⟨rfl, rfl⟩
        rw [eR, eT]
        go_wp2_with fail
        refine (dnum 0 w4).mono ?_
        rintro e w5 ⟨rfl, rfl⟩
        go_wp2_with fail
        refine (dnum 0 w5).mono ?_
        rintro e w6 ⟨rfl, rfl⟩
        go_wp2_with fail
        exact ⟨⟨f + 1, rfl, by omega, HB2⟩, by simp [intOf]; omega⟩
      · have eA : askE f 0 0 true = 2 := ask_file hlt true
        have eS : sizV f lb true = 0 := by unfold sizV; rw [eA]; rfl
        go_wp2_with fail
        refine (rseen f hlt _ B R l0 l1 vw' ws _ _ true HQ.out.rd hw lb HQ.out.sees).mono ?_
        rintro e w2 ⟨y, rfl, hy, hb⟩
        have HB2 : Hid (Below X.heap.size X w2) := HB.out.trans (hb.mono zb)
        have HQ2 : Hid _ := HQ.out.below hb
        clear hb hy HB HQ
        go_wp2_with fail
        refine (csize f w2 B D vb vw lb ws left count true HQ2.out.pd).mono ?_
        rintro e w3 ⟨rfl, rfl⟩
        rw [eS, eA]
        obtain ⟨-, -, -, -, r4, -⟩ := HQ2.out.rd.cells
        go_wp2_with fail
        refine (dnum 2 w3).mono ?_
        rintro e w4 ⟨rfl, rfl⟩
        go_wp2_with fail
        go_ret
        exact ⟨rfl, HB2.out⟩
    · obtain rfl : f = 2 := by omega
      go_wp2_with fail
      go_ret
      exact ⟨rfl, HB.out⟩
end Go.Proofs.YtfjkockcgddgbaaGreat

namespace Go.Proofs.YtfjkockcgddgbaaGreat
open Go.RowKit Go.Lib
attribute [local go_sem ↓] Go.wp_at_zero Go.wp_at_succ
set_option maxRecDepth 20000 in
set_option maxHeartbeats 1000000 in
theorem lsheet (n : Int) (w : World) : Calls Tryz.prog 14 #[.int .i64 n] w fun e w' => e = .returned (.string (shB n)) ∧ Below w.heap.size w w' := by
  have hm := makeB w
  have HZ : Hid (Pg (w.alloc (.cells (valsB blank).toArray 5)) w.heap.size blank) := ⟨blank_len, heap_alloc_new w _⟩
  have HB0 : Hid (Below w.heap.size w (w.alloc (.cells (valsB blank).toArray 5))) := (Below.refl _ _).alloc (Nat.le_refl _) _
  go_enter Tryz.func14, Tryz.ntmps14
  go_wp2_with fail
  generalize w.alloc (.cells (valsB blank).toArray 5) = W0 at *
  go_loopw [8] (fun u Y => ∃ i : Nat, u = .int .i64 i ∧ i ≤ 1024 ∧ Hid (Pg Y w.heap.size (shL n i)) ∧ Hid (Below w.heap.size w Y)) (fun u _ => 1024 - (intOf u).toNat)
  case atStart => exact ⟨0, rfl, Nat.zero_le _, by rw [shL_zero]; exact HZ.out, HB0⟩
  case round =>
    obtain ⟨i, rfl, hi, HP, HB⟩ := hrel
    by_cases hlt : i < 1024
    · have k1 : (i : Int) < 1024 := by omega
      obtain ⟨c0, f0⟩ := HP.out.cell hlt
      have HP2 : Hid (Pg (wr.setCell ⟨w.heap.size, i, none⟩ (.int .u8 (shX n i).toNat)) w.heap.size (shL n (i + 1))) := by
        show Pg _ _ _
        rw [← shL_succ n hlt]
        exact HP.out.set i _
      have HE : Hid (wrap64 (n * ((i : Int) / 100 + 1)) % 256 = ((shX n i).toNat : Int)) := sh_eq n i
      go_wp2
      rw [HE.out]
      go_roundw
      case rel => exact ⟨i + 1, by go_num, by omega, HP2, HB.out.setCell (p := ⟨w.heap.size, i, none⟩) (Nat.le_refl _) _⟩
      case measure => simp [intOf]; omega
    · obtain rfl : i = 1024 := by omega
      have ht := HP.out.text
      go_wp2
      go_ret
      exact ⟨rfl, HB.out⟩
structure ActD where
  k : Int
  f : Int
  a : Int
  n : Int
  s : ByteArray
  t : ByteArray
  kp : Option Addr
  kn : Nat
  kc : Nat
  fk : Nat → Int
  ca : Option Addr
  cn : Nat
  cc : Nat
def okAct (X : World) (B : Nat) (x : ActD) : Prop := (-9223372036854775808 ≤ x.n ∧ x.n ≤ 9223372036854775807) ∧ x.kn * 8 ≤ 140737488351232 ∧ (x.kn = 0 ∨ ∃ b off, x.kp = some ⟨b, off, none⟩ ∧ b < B ∧ ∀ j, j < x.kn → X.cell? ⟨b, off + j, none⟩ = some (.int .i64 (x.fk j)))
def actCells (x : ActD) : List Value := [.int .i64 x.k, .int .i64 x.f, .int .i64 x.a, .int .i64 x.n, .string x.s, .string x.t, .slice x.kp x.kn x.kc, (.slice x.ca x.cn x.cc)]
def liesActs (X : World) (sa : Option Addr) (sl : Nat) (A : Nat → ActD) : Prop := sl = 0 ∨ ∃ b off, sa = some ⟨b, off, none⟩ ∧ b < X.heap.size ∧ ∀ i, i < sl → okAct X X.heap.size (A i) ∧ ∀ j, j < 8 → X.cell? ⟨b, off + (i * 8 + j), none⟩ = (actCells (A i))[j]?
set_option maxRecDepth 20000 in
set_option maxHeartbeats 1000000 in
theorem lshort (a : Option Addr) (n c : Nat) (w : World) (hn : n ≤ 140737488355328) (hc : n ≤ c) (ha : a = none → n = 0 ∧ c = 0) :
    Calls Tryz.prog 10 #[.slice a n c] w fun e w' => e = .returned (.slice a (min n 250) c) ∧ w' = w := by
  by_cases h : n ≤ 250
  · rw [Nat.min_eq_left h]
    have h' : (n : Int) ≤ 250 := by omega
    go_enter Tryz.func10, Tryz.ntmps10
    go_wp2_with fail
    go_ret
    exact ⟨by show Ending.returned (Value.slice a (min (n : Int) 250).toNat c) = _; rw [show (min (n : Int) 250).toNat = n by omega], rfl⟩
  · rw [Nat.min_eq_right (by omega)]
    have h' : ¬ (n : Int) ≤ 250 := by omega
    have h2 : (250 : Int) ≤ (c : Int) := by omega
    cases a with
    | none => have := ha rfl; omega
    | some ad =>
      clear ha
      go_enter Tryz.func10, Tryz.ntmps10
      go_wp2_with fail
      go_ret
      exact ⟨by show Ending.returned (Value.slice (some ad) (min (n : Int) 250).toNat c) = _; rw [show (min (n : Int) 250).toNat = 250 by omega], rfl⟩
theorem PD.belM {X Y : World} {B D : Nat} {vb : Nat → Value} {vw : Value} {lb : Nat → List UInt8} {ws : List Chg} {left count : Int} {down : Bool} (h : PD X B D vb vw lb ws left count down) (hb : BelT tyL B X Y) : PD Y B D vb vw lb ws left count down :=
  ⟨(hb.far D h.lt (far_blk (by decide) h.blk)).trans h.blk, h.low, fun i hi => row_keep (h.rows i hi) (fun g hg => hb.far g (far_row (T := tyL) (by decide) (h.rows i hi) g hg).1 (far_row (T := tyL) (by decide) (h.rows i hi) g hg).2), row_keep h.wrow (fun g hg => hb.far g (far_row (T := tyL) (by decide) h.wrow g hg).1 (far_row (T := tyL) (by decide) h.wrow g hg).2), h.dif, h.size, h.oks⟩
theorem PL.belM {X Y : World} {B D G bp bf n : Nat} {L : LS} {S : DS} (h : PL X B D G bp bf n L S) (hb : BelT tyL B X Y) : PL Y B D G bp bf n L S := by
  refine ⟨(hb.far G h.lt (far_blk (by decide) h.blk)).trans h.blk, h.low, h.dif, h.mp.keep (hb.far _ h.mp.lt (h.mp.far _)), h.mf.keep (hb.far _ h.mf.lt (h.mf.far _)), ?_⟩
  obtain ⟨vb, vw, hd⟩ := h.dsk
  exact ⟨vb, vw, hd.belM hb⟩
/- the document's blocks stay while the program's log works -/
theorem blk_belL {X Y : World} {B D G bp bf n b : Nat} {L : LS} {S : DS} {cur : Array Value} {t : TypeId} {fz : Nat × Nat} (h : PL X B D G bp bf n L S) (hb : BelL G bp bf B X Y) (hc : X.heap[b]? = some (.cells cur t fz)) (h1 : tyP t = false) (h2 : ¬ t = 96) : Y.heap[b]? = X.heap[b]? := by
  refine hb.far b (Array.getElem?_eq_some_iff.1 hc).1 (far_blk h1 hc) (fun e => ?_) (fun e => ?_) (fun e => ?_)
  · subst e
    rw [h.blk] at hc
    injection hc with hc
    injection hc with _ hc _
    exact h2 hc.symm
  · subst e
    obtain ⟨es, cl, hm⟩ := h.mp.isMap
    rw [hm] at hc
    cases hc
  · subst e
    obtain ⟨es, cl, hm⟩ := h.mf.isMap
    rw [hm] at hc
    cases hc
theorem row_belL {X Y : World} {B D G bp bf n : Nat} {L : LS} {S : DS} {t : TypeId} {size k : Nat} {v : Value} {xs : List Value} (h : PL X B D G bp bf n L S) (hb : BelL G bp bf B X Y) (hr : X.ownsRow B t size v k xs) (h1 : tyP t = false) (h2 : ¬ t = 96) : Y.ownsRow B t size v k xs := by
  refine row_keep hr (fun g hg => ?_)
  rcases hr.2 with ⟨e1, _⟩ | ⟨g', cap, cur, e1, _, hc, _⟩
  · rw [e1] at hg; cases hg
  · rw [e1] at hg
    injection hg with hg
    have hg : g' = g := hg
    subst hg
    exact blk_belL h hb hc h1 h2
theorem RDs.belL {X Y : World} {B D G bp bf n R : Nat} {L : LS} {S S' : DS} (hr : RDs X B R S') (h : PL X B D G bp bf n L S) (hb : BelL G bp bf B X Y) : RDs Y B R S' := by
  obtain ⟨l0, l1, vw, hr⟩ := hr
  exact ⟨l0, l1, vw, ⟨⟨(blk_belL h hb hr.rd.blk (by decide) (by decide)).trans hr.rd.blk, hr.rd.low, row_belL h hb hr.rd.wrow (by decide) (by decide), hr.rd.s0, hr.rd.s1, hr.rd.oks⟩, hr.e1, hr.e3, hr.sees⟩⟩
theorem RL.belL {X Y : World} {B D G bp bf n R M : Nat} {L : LS} {S S' : DS} {fs : List (Int × ByteArray)} {c : Cm} (hr : RL X B R M fs c S') (h : PL X B D G bp bf n L S) (hb : BelL G bp bf B X Y) : RL Y B R M fs c S' := by
  obtain ⟨vf, hr⟩ := hr
  exact ⟨vf, ⟨(blk_belL h hb hr.blk (by decide) (by decide)).trans hr.blk, hr.low, row_belL h hb hr.row (by decide) (by decide), hr.dsk.belL h hb⟩⟩
/- between two calls -/
structure LR (X w : World) (D R G bp bf M K m : Nat) (L : LS) (S : DS) (fs : List (Int × ByteArray)) : Prop where
  pl : PL w X.heap.size D G bp bf K L S
  rl : RL w X.heap.size R M fs L.last S
  q : LQ K m L S fs
  bel : Below X.heap.size X w
theorem LR.below {X w w' : World} {D R G bp bf M K m : Nat} {L : LS} {S : DS} {fs : List (Int × ByteArray)} (h : LR X w D R G bp bf M K m L S fs) (hb : Below w.heap.size w w') : LR X w' D R G bp bf M K m L S fs := ⟨h.pl.below hb, h.rl.below hb, h.q, h.bel.trans (hb.mono h.bel.size)⟩
theorem LR.dr {X w : World} {D R G bp bf M K m : Nat} {L : LS} {S : DS} {fs : List (Int × ByteArray)} (h : LR X w D R G bp bf M K m L S fs) : DR w X.heap.size D R m := by
  obtain ⟨vb, vw, hp⟩ := h.pl.dsk
  obtain ⟨l0, l1, vw', hr⟩ := h.rl.dsk
  exact ⟨vb, vw, S.lb, S.ws, S.left, S.count, S.down, l0, l1, vw', ⟨hp, hr.rd, hr.e1, hr.e3, hr.sees, h.q.ok.2.2.2, ⟨h.q.ok.2.1, h.q.ok.2.2.1⟩, h.q.ok.1⟩⟩
theorem rcrashD (a : Option Addr) (n cap : Nat) (fk : Nat → Int) (X : World) (B R m : Nat) (S : DS) (h : RDs X B R S) (hB : B ≤ X.heap.size) (ho : okS S m) (hm : m ≤ 1000000) (hn : n ≤ 140737488355328) (hk : liesI tyR X B a n fk) :
    Calls Tryz.prog 25 #[(.pointer (some ⟨R, 0, none⟩)), .slice a n cap] X fun e w' => e = .returned (.tuple #[]) ∧ RDs w' B R (crD (fateI n fk) S) ∧ BelT tyR B X w' := by
  obtain ⟨l0, l1, vw, h⟩ := h
  refine (rcrash a n cap fk X B R l0 l1 vw S.ws (nrm S.left) S.count S.down h.rd hB (Nat.le_trans ho.2.2.2 hm) hn hk S.lb h.e1 h.e3).mono ?_
  rintro e w ⟨h1, ⟨l0', l1', h2, h3, h4⟩, h5⟩
  obtain ⟨c0, c1, c2, c3⟩ := cp_at (crL (fateI n fk) S.ws S.lb S.ws.length)
  refine ⟨h1, ⟨l0', l1', .slice none 0 0, ⟨h2, ?_, ?_, ⟨?_, ?_⟩⟩⟩, h5⟩
  · exact c1.trans h3.symm
  · exact c3.trans h4.symm
  · exact c0.trans h3.symm
  · exact c2.trans h4.symm
end Go.Proofs.YtfjkockcgddgbaaGreat

namespace Go.Proofs.YtfjkockcgddgbaaGreat
open Go.RowKit Go.Lib
attribute [local go_sem ↓] Go.wp_at_zero Go.wp_at_succ
/- blocks of acts stay -/
def Keep (w w' : World) : Prop := ∀ (b : Nat) (cur : Array Value) (fz : Nat × Nat), w.heap[b]? = some (.cells cur 39 fz) → w'.heap[b]? = some (.cells cur 39 fz)
theorem Keep.refl (w : World) : Keep w w := fun _ _ _ h => h
theorem Keep.trans {w w1 w2 : World} (h : Keep w w1) (k : Keep w1 w2) : Keep w w2 := fun b cur fz e => k b cur fz (h b cur fz e)
theorem Keep.below {w w' : World} (hb : Below w.heap.size w w') : Keep w w' := fun b _ _ e => (hb.block b (Array.getElem?_eq_some_iff.1 e).1).trans e
theorem Keep.belT {T : TypeId → Bool} {B : Nat} {w w' : World} (hT : T 39 = false) (hb : BelT T B w w') : Keep w w' := fun b _ _ e => (hb.far b (Array.getElem?_eq_some_iff.1 e).1 (far_blk hT e)).trans e
theorem Keep.belL {w w' : World} {B D G bp bf n : Nat} {L : LS} {S : DS} (h : PL w B D G bp bf n L S) (hb : BelL G bp bf B w w') : Keep w w' := fun _ _ _ e => (blk_belL h hb e (by decide) (by decide)).trans e
/- the program's log went on, the document's is where it was -/
structure LP (X w : World) (D R G bp bf M K : Nat) (L : LS) (S : DS) (fs : List (Int × ByteArray)) (c : Cm) (S0 : DS) : Prop where
  pl : PL w X.heap.size D G bp bf K L S
  rl : RL w X.heap.size R M fs c S0
  bel : Below X.heap.size X w
theorem LP.below {X w w' : World} {D R G bp bf M K : Nat} {L : LS} {S S0 : DS} {fs : List (Int × ByteArray)} {c : Cm} (h : LP X w D R G bp bf M K L S fs c S0) (hb : Below w.heap.size w w') : LP X w' D R G bp bf M K L S fs c S0 := ⟨h.pl.below hb, h.rl.below hb, h.bel.trans (hb.mono h.bel.size)⟩
theorem LR.step {X w w' : World} {D R G bp bf M K K' m : Nat} {L L' : LS} {S S' : DS} {fs : List (Int × ByteArray)} (h : LR X w D R G bp bf M K m L S fs) (hp : PL w' X.heap.size D G bp bf K' L' S') (hb : BelL G bp bf X.heap.size w w') : LP X w' D R G bp bf M K' L' S' fs L.last S := ⟨hp, h.rl.belL h.pl hb, h.bel.trans hb.toBelow⟩
theorem LP.step {X w w' : World} {D R G bp bf M K m : Nat} {L : LS} {S S0 : DS} {fs fs' : List (Int × ByteArray)} {c : Cm} (h : LP X w D R G bp bf M K L S fs c S0) (hr : RL w' X.heap.size R M fs' L.last S) (hb : BelT tyL X.heap.size w w') (hq : LQ K m L S fs') : LR X w' D R G bp bf M K m L S fs' := ⟨h.pl.belM hb, hr, hq, h.bel.trans hb.toBelow⟩
theorem LR.fs {X w : World} {D R G bp bf M K m : Nat} {L : LS} {S : DS} {fs : List (Int × ByteArray)} (h : LR X w D R G bp bf M K m L S fs) : fs.length ≤ K := by
  have := h.q.iv.fr
  have := h.q.fr
  omega
theorem LQ.len {K m : Nat} {L : LS} {S : DS} {fs : List (Int × ByteArray)} (h : LQ K m L S fs) : fs.length ≤ K := by
  have := h.iv.fr
  have := h.fr
  omega
theorem ap_last (L : LS) (S : DS) (n : Int) (t : ByteArray) : (apL L S n t).2.1.last = L.last := by
  unfold apL
  split
  · rfl
  · split
    · rfl
    · split
      · rfl
      · rfl
theorem pApp (n : Int) (t : ByteArray) {X w : World} {D R G bp bf M K m : Nat} {L : LS} {S : DS} {fs : List (Int × ByteArray)} (h : LR X w D R G bp bf M K m L S fs) (hK : K ≤ 600) (hm : m ≤ 90000) :
    Calls Tryz.prog 13 #[(.pointer (some ⟨G, 0, none⟩)), .int .i64 n, .string t] w fun e w' => e = .returned (.int .i64 (apL L S n t).1) ∧ LP X w' D R G bp bf M (K + 1) (apL L S n t).2.1 (apL L S n t).2.2 fs L.last S ∧ Keep w w' := by
  refine (cappend n t w X.heap.size D G bp bf K m L S h.pl h.bel.size (by omega) h.q.ok (by omega) (by have := h.q.fr; omega)).mono ?_
  rintro e w' ⟨h1, h2, h3⟩
  exact ⟨h1, h.step h2 h3, Keep.belL h.pl h3⟩
theorem rApp (n : Int) (t : ByteArray) {X w : World} {D R G bp bf M K m : Nat} {L : LS} {S : DS} {fs : List (Int × ByteArray)} (hq : LQ K m L S fs) (h : LP X w D R G bp bf M (K + 1) (apL L S n t).2.1 (apL L S n t).2.2 fs L.last S) (hK : K ≤ 600) (hm : m ≤ 90000) :
    Calls Tryz.prog 15 #[(.pointer (some ⟨M, 0, none⟩)), .int .i64 n, .string t] w fun e w' => e = .returned (.int .i64 (apL L S n t).1) ∧ LR X w' D R G bp bf M (K + 1) (m + 1) (apL L S n t).2.1 (apL L S n t).2.2 (apF fs (apL L S n t).1 n t) ∧ Keep w w' := by
  refine (rappend n t w X.heap.size R M m fs L.last S L h.rl h.bel.size hq.ok (by omega) (by have := hq.len; omega) hq.iv.fr.1).mono ?_
  rintro e w' ⟨h1, h2, h3⟩
  exact ⟨h1, h.step (by rw [ap_last]; exact h2) h3 (ap_q hq n t), Keep.belT (by decide) h3⟩
theorem pCom (n : Int) (t : ByteArray) (pg : Int) {X w : World} {D R G bp bf M K m : Nat} {L : LS} {S : DS} {fs : List (Int × ByteArray)} (h : LR X w D R G bp bf M K m L S fs) (hK : K ≤ 600) (hm : m ≤ 90000) :
    Calls Tryz.prog 16 #[(.pointer (some ⟨G, 0, none⟩)), .int .i64 n, .string t, .int .i64 pg] w fun e w' => e = .returned (.int .i64 (cmL L S n t pg).1) ∧ LP X w' D R G bp bf M (K + 1) (cmL L S n t pg).2.1 (cmL L S n t pg).2.2 fs L.last S ∧ Keep w w' := by
  have hq := cm_q h.q (by omega) n t pg
  refine (ccommit n t pg w X.heap.size D G bp bf K m L S h.pl h.bel.size (by omega) h.q.ok (by omega) (by have := h.q.fr; omega) h.q.iv.ok).mono ?_
  rintro e w' ⟨h1, h2, h3⟩
  exact ⟨h1, h.step (hq.iv.small h2 hq.fr) h3, Keep.belL h.pl h3⟩
theorem rCom (n : Int) (t : ByteArray) (pg : Int) {X w : World} {D R G bp bf M K m : Nat} {L : LS} {S : DS} {fs : List (Int × ByteArray)} (hq : LQ K m L S fs) (h : LP X w D R G bp bf M (K + 1) (cmL L S n t pg).2.1 (cmL L S n t pg).2.2 fs L.last S) (hK : K ≤ 600) (hm : m ≤ 90000) :
    Calls Tryz.prog 17 #[(.pointer (some ⟨M, 0, none⟩)), .int .i64 n, .string t, .int .i64 pg] w fun e w' => e = .returned (.int .i64 (cmL L S n t pg).1) ∧ LR X w' D R G bp bf M (K + 1) (m + 4) (cmL L S n t pg).2.1 (cmL L S n t pg).2.2 (cmF L S fs n t pg) ∧ Keep w w' := by
  refine (rcommit n t pg w X.heap.size R M m fs L.last S L h.rl h.bel.size hq.ok (by omega) (by have := hq.len; omega) hq.iv.fr.1 rfl hq.iv.ok).mono ?_
  rintro e w' ⟨h1, h2, h3⟩
  exact ⟨h1, h.step h2 h3 (cm_q hq (by omega) n t pg), Keep.belT (by decide) h3⟩
theorem pBack {X w : World} {D R G bp bf M K m : Nat} {L : LS} {S : DS} {fs : List (Int × ByteArray)} (h : LR X w D R G bp bf M K m L S fs) :
    Calls Tryz.prog 18 #[(.pointer (some ⟨G, 0, none⟩))] w fun e w' => e = .returned (.tuple #[]) ∧ LP X w' D R G bp bf M K (bkL L) S fs L.last S ∧ Keep w w' := by
  refine (cback w X.heap.size D G bp bf K L S h.pl h.bel.size).mono ?_
  rintro e w' ⟨h1, h2, h3⟩
  exact ⟨h1, h.step h2 h3, Keep.belL h.pl h3⟩
theorem rBack {X w : World} {D R G bp bf M K m : Nat} {L : LS} {S : DS} {fs : List (Int × ByteArray)} (hq : LQ K m L S fs) (h : LP X w D R G bp bf M K (bkL L) S fs L.last S) :
    Calls Tryz.prog 19 #[(.pointer (some ⟨M, 0, none⟩))] w fun e w' => e = .returned (.tuple #[]) ∧ LR X w' D R G bp bf M K m (bkL L) S (fs.take L.last.frames) ∧ Keep w w' := by
  refine (rback w X.heap.size R M fs L.last S h.rl h.bel.size (by have := hq.iv.fr; omega)).mono ?_
  rintro e w' ⟨h1, h2, h3⟩
  exact ⟨h1, h.step h2 h3 (bk_q hq), Keep.belT (by decide) h3⟩
theorem pChk {X w : World} {D R G bp bf M K m : Nat} {L : LS} {S : DS} {fs : List (Int × ByteArray)} (h : LR X w D R G bp bf M K m L S fs) (hK : K ≤ 600) (hm : m ≤ 90000) :
    Calls Tryz.prog 20 #[(.pointer (some ⟨G, 0, none⟩))] w fun e w' => ∃ ks, (L.fr = L.last.frames → ¬ L.fr = 0 → KeysOf L.pl ks ∧ ks.length ≤ K) ∧ e = .returned (.int .i64 (ckL L S ks).1) ∧ LP X w' D R G bp bf M K (ckL L S ks).2.1 (ckL L S ks).2.2 fs L.last S ∧ Keep w w' := by
  refine (ccheckpoint w X.heap.size D G bp bf K m L S h.pl h.bel.size (by omega) h.q.ok (by omega) (h.q.iv.okp (by have := h.q.fr; omega)).1 h.q.iv.pos h.q.iv.ok).mono ?_
  rintro e w' ⟨ks, h0, h1, h2, h3⟩
  exact ⟨ks, h0, h1, h.step h2 h3, Keep.belL h.pl h3⟩
theorem rChk (ks : List Int) {X w : World} {D R G bp bf M K m : Nat} {L : LS} {S : DS} {fs : List (Int × ByteArray)} (hq : LQ K m L S fs) (hks : L.fr = L.last.frames → ¬ L.fr = 0 → KeysOf L.pl ks ∧ ks.length ≤ K) (h : LP X w D R G bp bf M K (ckL L S ks).2.1 (ckL L S ks).2.2 fs L.last S) (hK : K ≤ 600) (hm : m ≤ 90000) :
    Calls Tryz.prog 21 #[(.pointer (some ⟨M, 0, none⟩))] w fun e w' => e = .returned (.int .i64 (ckL L S ks).1) ∧ LR X w' D R G bp bf M K (m + K + 4) (ckL L S ks).2.1 (ckL L S ks).2.2 (ckF L S fs ks) ∧ Keep w w' := by
  have hl := h.rl.dsk.len
  refine (rcheck w X.heap.size R M m fs L.last S L ks h.rl h.bel.size hq.ok (by omega) (by have := hq.len; omega) hq.iv.fr.1 rfl hq.iv.ok (fun e1 e2 => ⟨KF.of (hks e1 e2).1 hq.iv.pos, by have := (hks e1 e2).2; omega, hq.iv.pl⟩) (hq.iv.txt.txt hl.2.2.1)).mono ?_
  rintro e w' ⟨h1, h2, h3⟩
  exact ⟨h1, h.step h2 h3 (ck_q hq (by omega) ks (fun e1 e2 => (hks e1 e2).2)), Keep.belT (by decide) h3⟩
theorem pFail (n : Int) {X w : World} {D R G bp bf M K m : Nat} {L : LS} {S : DS} {fs : List (Int × ByteArray)} (h : LR X w D R G bp bf M K m L S fs) :
    Calls Tryz.prog 22 #[(.pointer (some ⟨D, 0, none⟩)), .int .i64 n] w fun e w' => e = .returned (.tuple #[]) ∧ LP X w' D R G bp bf M K L { S with left := n } fs L.last S ∧ Keep w w' := by
  refine (cfailD n w X.heap.size D S h.pl.dsk).mono ?_
  rintro e w' ⟨h1, h2, h3⟩
  exact ⟨h1, h.step (h.pl.disk h3 h2) (h3.log G bp bf), Keep.belT (by decide) h3⟩
theorem RL.disk {X Y : World} {B R M : Nat} {fs : List (Int × ByteArray)} {c : Cm} {S S' : DS} (h : RL X B R M fs c S) (hb : BelT tyR B X Y) (hd : RDs Y B R S') : RL Y B R M fs c S' := by
  obtain ⟨vf, h⟩ := h
  exact ⟨vf, ⟨(hb.far M h.lt (far_blk (by decide) h.blk)).trans h.blk, h.low, row_keep h.row (fun g hg => hb.far g (far_row (T := tyR) (by decide) h.row g hg).1 (far_row (T := tyR) (by decide) h.row g hg).2), hd⟩⟩
theorem rFail (n : Int) (hn : -9223372036854775808 ≤ n ∧ n ≤ 9223372036854775807) {X w : World} {D R G bp bf M K m : Nat} {L : LS} {S : DS} {fs : List (Int × ByteArray)} (hq : LQ K m L S fs) (h : LP X w D R G bp bf M K L { S with left := n } fs L.last S) :
    Calls Tryz.prog 23 #[(.pointer (some ⟨R, 0, none⟩)), .int .i64 n] w fun e w' => e = .returned (.tuple #[]) ∧ LR X w' D R G bp bf M K m L { S with left := n } fs ∧ Keep w w' := by
  refine (rfailD n w X.heap.size R S h.rl.dsk).mono ?_
  rintro e w' ⟨h1, h2, h3⟩
  exact ⟨h1, h.step (h.rl.disk h3 h2) h3.toL ⟨hq.iv.same rfl, hq.hs.same rfl rfl, hq.fr, ⟨hn, hq.ok.2.1, hq.ok.2.2.1, hq.ok.2.2.2⟩⟩, Keep.belT (by decide) h3⟩
theorem pRead (n : Int) {X w : World} {D R G bp bf M K m : Nat} {L : LS} {S : DS} {fs : List (Int × ByteArray)} (h : LR X w D R G bp bf M K m L S fs) (hK : K ≤ 600) :
    Calls Tryz.prog 11 #[(.pointer (some ⟨G, 0, none⟩)), .int .i64 n] w fun e w' => e = .returned (.tuple #[.string (rdL L S n).1, .int .i64 (rdL L S n).2]) ∧ LR X w' D R G bp bf M K m L S fs ∧ Keep w w' := by
  have ho := h.q.iv.okp (by have := h.q.fr; omega)
  refine (creadL n w X.heap.size D G bp bf K L S h.pl ho.1 ho.2).mono ?_
  rintro e w' ⟨h1, h2⟩
  exact ⟨h1, h.below h2, Keep.below h2⟩
theorem rRead (n : Int) {X w : World} {D R G bp bf M K m : Nat} {L : LS} {S : DS} {fs : List (Int × ByteArray)} (h : LR X w D R G bp bf M K m L S fs) (hK : K ≤ 600) (hm : m ≤ 90000) :
    Calls Tryz.prog 12 #[(.pointer (some ⟨M, 0, none⟩)), .int .i64 n] w fun e w' => e = .returned (.tuple #[.string (rdL L S n).1, .int .i64 (rdL L S n).2]) ∧ LR X w' D R G bp bf M K m L S fs ∧ Keep w w' := by
  have hl := h.rl.dsk.len
  have he := h.q.iv.rd hl.2.2.1 hl.1 n
  have hf := h.fs
  refine (rreadL n w X.heap.size R M m fs L.last S h.rl h.q.ok (by omega) (by omega)).mono ?_
  rintro e w' ⟨h1, h2⟩
  rw [he] at h1
  exact ⟨h1, h.below h2, Keep.below h2⟩
theorem cpages (X : World) (B D G bp bf n : Nat) (L : LS) (S : DS) (h : PL X B D G bp bf n L S) :
    Calls Tryz.prog 27 #[(.pointer (some ⟨G, 0, none⟩))] X fun e w' => e = .returned (.int .i64 L.last.pages) ∧ w' = X := by
  obtain ⟨c0, c1, c2, c3, c4, c5, c6, c7⟩ := h.cells
  clear h
  go_enter Tryz.func27, Tryz.ntmps27
  go_wp2_with fail
  go_ret
  exact ⟨rfl, rfl⟩
theorem cframes (X : World) (B D G bp bf n : Nat) (L : LS) (S : DS) (h : PL X B D G bp bf n L S) :
    Calls Tryz.prog 29 #[(.pointer (some ⟨G, 0, none⟩))] X fun e w' => e = .returned (.int .i64 L.fr) ∧ w' = X := by
  obtain ⟨c0, c1, c2, c3, c4, c5, c6, c7⟩ := h.cells
  clear h
  go_enter Tryz.func29, Tryz.ntmps29
  go_wp2_with fail
  go_ret
  exact ⟨rfl, rfl⟩
/- both disks without a log -/
structure LC (X w : World) (D R : Nat) (S S0 : DS) : Prop where
  pd : PDs w X.heap.size D S
  rd : RDs w X.heap.size R S0
  bel : Below X.heap.size X w
theorem pCrash (a : Option Addr) (n cap : Nat) (fk : Nat → Int) {X w : World} {D R G bp bf M K m : Nat} {L : LS} {S : DS} {fs : List (Int × ByteArray)} (h : LR X w D R G bp bf M K m L S fs) (hm : m ≤ 90000) (hn : n ≤ 140737488355328) (hk : liesI tyP w X.heap.size a n fk) :
    Calls Tryz.prog 24 #[(.pointer (some ⟨D, 0, none⟩)), .slice a n cap] w fun e w' => e = .returned (.tuple #[]) ∧ LC X w' D R (crD (fateI n fk) S) S ∧ Keep w w' := by
  refine (ccrashD a n cap fk w X.heap.size D m S h.pl.dsk h.bel.size h.q.ok (by omega) hn hk).mono ?_
  rintro e w' ⟨h1, h2, h3⟩
  exact ⟨h1, ⟨h2, h.rl.dsk.belP h3, h.bel.trans h3.toBelow⟩, Keep.belT (by decide) h3⟩
theorem rCrash (a : Option Addr) (n cap : Nat) (fk : Nat → Int) {X w : World} {D R m : Nat} {S : DS} (h : LC X w D R (crD (fateI n fk) S) S) (ho : okS S m) (hm : m ≤ 90000) (hn : n ≤ 140737488355328) (hk : liesI tyR w X.heap.size a n fk) :
    Calls Tryz.prog 25 #[(.pointer (some ⟨R, 0, none⟩)), .slice a n cap] w fun e w' => e = .returned (.tuple #[]) ∧ LC X w' D R (crD (fateI n fk) S) (crD (fateI n fk) S) ∧ Keep w w' := by
  refine (rcrashD a n cap fk w X.heap.size R m S h.rd h.bel.size ho (by omega) hn hk).mono ?_
  rintro e w' ⟨h1, h2, h3⟩
  exact ⟨h1, ⟨h.pd.belR h3, h2, h.bel.trans h3.toBelow⟩, Keep.belT (by decide) h3⟩
/- what a crash leaves -/
structure UpS (K m : Nat) (S : DS) : Prop where
  hs : HS K S
  ok : okS S m
  up : S.down = false
  left : S.left = -1
theorem LR.ups {X w : World} {D R G bp bf M K m : Nat} {L : LS} {S : DS} {fs : List (Int × ByteArray)} (h : LR X w D R G bp bf M K m L S fs) (fa : Nat → Int) : UpS K m (crD fa S) := by
  obtain ⟨vb, vw, hp⟩ := h.pl.dsk
  exact ⟨h.q.hs.crash (fun x hx => (hp.oks x hx).1) fa, ⟨⟨by show (-9223372036854775808 : Int) ≤ -1; decide, by show (-1 : Int) ≤ 9223372036854775807; decide⟩, h.q.ok.2.1, h.q.ok.2.2.1, Nat.zero_le _⟩, rfl, rfl⟩
theorem last_zero {log : List UInt8} (h : (lastC log).number = 0) : lastC log = cm0 := by
  revert h
  unfold lastC
  split
  · unfold pickC
    split
    · exact fun h => told_zero h
    · exact fun h => told_zero h
  · exact fun _ => rfl
def begD (S : DS) (pg : Nat) : DS := (synD (opD (synD (opD S 1 0 ⟨#[]⟩ true).2 1).2 1 0 (markB ++ txtB 1 0 pg) false).2 1).2
theorem Beg.last {S S1 S2 S3 S4 : DS} {pg : Nat} (h : Beg S S1 S2 S3 S4 pg) : S4 = begD S pg := by
  obtain ⟨b1, b2, b3, b4⟩ := h
  unfold begD
  rw [b1]
  dsimp only
  rw [b2]
  dsimp only
  rw [b3]
  dsimp only
  rw [b4]
/- what Open makes of a disk that is up -/
def opO (S : DS) : LS × DS × List (Int × ByteArray) := if (lastC (S.lb 2)).number = 0 then (⟨⟨0, 1, 0, (S.lb 0).length / 1024⟩, 0, fun _ => none, fun _ => none⟩, begD S ((S.lb 0).length / 1024), []) else (opnL (S.lb 2), S, frL (S.lb 2) (lastC (S.lb 2)).frames)
theorem opO_q {K m : Nat} {S : DS} (h : UpS K m S) (h0 : (S.lb 0).length ≤ 67108864) : LQ K (m + 4) (opO S).1 (opO S).2.1 (opO S).2.2 := by
  unfold opO
  split
  · obtain ⟨S1, S2, S3, S4, hS, _⟩ := beg_of h.up h.left ((S.lb 0).length / 1024)
    rw [← hS.last]
    exact anew_q h.hs h.ok _ (by omega) hS
  · exact (open_q h.hs h.ok).mono (Nat.le_refl _) (by omega)
structure LO (X w : World) (D R G bp bf K : Nat) (S : DS) : Prop where
  pl : PL w X.heap.size D G bp bf K (opO S).1 (opO S).2.1
  rd : RDs w X.heap.size R S
  bel : Below X.heap.size X w
set_option maxRecDepth 20000 in
theorem pOpen {X w : World} {D R K m : Nat} {S : DS} (hu : UpS K m S) (h : LC X w D R S S) (hm : m ≤ 90000) :
    Calls Tryz.prog 7 #[(.pointer (some ⟨D, 0, none⟩))] w fun e w' => ∃ G bp bf, e = .returned (.tuple #[(.pointer (some ⟨G, 0, none⟩)), .int .i64 0]) ∧ LO X w' D R G bp bf K S ∧ Keep w w' := by
  by_cases h0 : (lastC (S.lb 2)).number = 0
  · obtain ⟨pg, hpg⟩ : ∃ pg, pg = (S.lb 0).length / 1024 := ⟨_, rfl⟩
    have e0 : opO S = (⟨⟨0, 1, 0, pg⟩, 0, fun _ => none, fun _ => none⟩, begD S pg, []) := by unfold opO; rw [if_pos h0, ← hpg]
    obtain ⟨S1, S2, S3, S4, hS, _⟩ := beg_of hu.up hu.left pg
    refine (copen_new w X.heap.size D m S S1 S2 S3 S4 h.pd h.bel.size hu.ok (by omega) hu.up (last_zero h0) pg hpg hS).mono ?_
    rintro e w' ⟨G, bp, bf, h1, h2, h3⟩
    rw [hS.last] at h2
    exact ⟨G, bp, bf, h1, ⟨by rw [e0]; dsimp only; exact h2.mono (Nat.zero_le _), h.rd.belP h3, h.bel.trans h3.toBelow⟩, Keep.belT (by decide) h3⟩
  · have e0 : opO S = (opnL (S.lb 2), S, frL (S.lb 2) (lastC (S.lb 2)).frames) := if_neg h0
    refine (copen w X.heap.size D S h.pd h.bel.size hu.up h0).mono ?_
    rintro e w' ⟨G, bp, bf, h1, h2, h3⟩
    exact ⟨G, bp, bf, h1, ⟨by rw [e0]; exact h2.mono hu.hs.seen.last, h.rd.below h3, h.bel.trans (h3.mono h.bel.size)⟩, Keep.below h3⟩
set_option maxRecDepth 20000 in
theorem rOpen {X w : World} {D R G bp bf K m : Nat} {S : DS} (hu : UpS K m S) (h : LO X w D R G bp bf K S) (hm : m ≤ 90000) :
    Calls Tryz.prog 8 #[(.pointer (some ⟨R, 0, none⟩))] w fun e w' => ∃ M, e = .returned (.tuple #[(.pointer (some ⟨M, 0, none⟩)), .int .i64 0]) ∧ LR X w' D R G bp bf M K (m + 4) (opO S).1 (opO S).2.1 (opO S).2.2 ∧ Keep w w' := by
  have hq := opO_q hu h.rd.len.1
  by_cases h0 : (lastC (S.lb 2)).number = 0
  · obtain ⟨pg, hpg⟩ : ∃ pg, pg = (S.lb 0).length / 1024 := ⟨_, rfl⟩
    have e0 : opO S = (⟨⟨0, 1, 0, pg⟩, 0, fun _ => none, fun _ => none⟩, begD S pg, []) := by unfold opO; rw [if_pos h0, ← hpg]
    obtain ⟨S1, S2, S3, S4, hS, _⟩ := beg_of hu.up hu.left pg
    refine (ropen0 w X.heap.size R m S S1 S2 S3 S4 h.rd h.bel.size hu.ok (by omega) hu.up h0 pg hpg hS).mono ?_
    rintro e w' ⟨M, h1, h2, h3⟩
    rw [hS.last] at h2
    exact ⟨M, h1, ⟨h.pl.belM h3, by rw [e0]; dsimp only; exact h2, hq, h.bel.trans h3.toBelow⟩, Keep.belT (by decide) h3⟩
  · have e0 : opO S = (opnL (S.lb 2), S, frL (S.lb 2) (lastC (S.lb 2)).frames) := if_neg h0
    refine (ropen1 w X.heap.size R m S h.rd h.bel.size hu.ok (by omega) hu.up h0).mono ?_
    rintro e w' ⟨M, h1, h2, h3⟩
    exact ⟨M, h1, ⟨h.pl.below h3, by rw [e0]; dsimp only; exact h2, hq, h.bel.trans (h3.mono h.bel.size)⟩, Keep.below h3⟩
theorem rnewD {X : World} (w : World) (h : PDs w X.heap.size X.heap.size newD) (hb : Below X.heap.size X w) :
    Calls Tryz.prog 6 #[] w fun e w' => e = .returned (.pointer (some ⟨w.heap.size, 0, none⟩)) ∧ LC X w' X.heap.size w.heap.size newD newD := by
  refine (rnew w X.heap.size hb.size).mono ?_
  rintro e w' ⟨h1, h2, h3⟩
  exact ⟨h1, ⟨h.below h3, ⟨_, _, _, ⟨h2, rfl, rfl, ⟨rfl, rfl⟩⟩⟩, hb.trans (h3.mono hb.size)⟩⟩
theorem new_ups : UpS 0 0 newD := ⟨⟨HF.none 0, HF.none 0, fun x hx => by cases hx⟩, ⟨⟨by decide, by decide⟩, by decide, by decide, by decide⟩, rfl, rfl⟩
end Go.Proofs.YtfjkockcgddgbaaGreat

namespace Go.Proofs.YtfjkockcgddgbaaGreat
open Go.ChangeShapes Go.WideShapes Go.ChangeAt Go.RowKit Go.Deep
theorem cellsAct : Tryz.prog.cellsOf 39 = 8 := by kernel_rfl
theorem bytesAct : Tryz.prog.bytesOf 39 = 112 := by kernel_rfl
theorem bytesIntA : Tryz.prog.bytesOf 3 = 8 := by kernel_rfl
theorem cIntA : Tryz.prog.cellsOf 3 = 1 := by kernel_rfl
theorem cStrA : Tryz.prog.cellsOf 9 = 1 := by kernel_rfl
theorem cIntsA : Tryz.prog.cellsOf 36 = 1 := by kernel_rfl
theorem cTextsA : Tryz.prog.cellsOf 37 = 1 := by kernel_rfl
theorem cell_ltA {W : World} {b o : Nat} {v : Value} (h : W.cell? ⟨b, o, none⟩ = some v) : b < W.heap.size := by
  rcases Nat.lt_or_ge b W.heap.size with h' | h'
  · exact h'
  · simp [World.cell?, Array.getElem?_eq_none h'] at h
theorem trod8 {H : Type} {enc : TypeId × Value → H} {P : Program} {w : World} {base : Nat} {spare : Nat → Bool} {held : Bool} {t : TypeId} {f0 f1 f2 f3 f4 f5 f6 f7 : Field} {fuel : Nat} {cs : List Value} {x : DataW H × List MemPlace}
    (ht : P.underlying t = some (.struct #[f0, f1, f2, f3, f4, f5, f6, f7])) (h : DataW.trod enc P w base spare held fuel t cs = some x) :
    ∃ y0 y1 y2 y3 y4 y5 y6 y7 n, x.1 = .agg [y0.1, y1.1, y2.1, y3.1, y4.1, y5.1, y6.1, y7.1] ∧ cs.length = P.cellsOf t ∧
      DataW.trod enc P w base spare held n f0.type ((cs.drop f0.offset).take (P.cellsOf f0.type)) = some y0 ∧ DataW.trod enc P w base spare held n f1.type ((cs.drop f1.offset).take (P.cellsOf f1.type)) = some y1 ∧
      DataW.trod enc P w base spare held n f2.type ((cs.drop f2.offset).take (P.cellsOf f2.type)) = some y2 ∧ DataW.trod enc P w base spare held n f3.type ((cs.drop f3.offset).take (P.cellsOf f3.type)) = some y3 ∧
      DataW.trod enc P w base spare held n f4.type ((cs.drop f4.offset).take (P.cellsOf f4.type)) = some y4 ∧ DataW.trod enc P w base spare held n f5.type ((cs.drop f5.offset).take (P.cellsOf f5.type)) = some y5 ∧
      DataW.trod enc P w base spare held n f6.type ((cs.drop f6.offset).take (P.cellsOf f6.type)) = some y6 ∧ DataW.trod enc P w base spare held n f7.type ((cs.drop f7.offset).take (P.cellsOf f7.type)) = some y7 := by
  obtain ⟨xs, n, _, rfl, hl, hlen, hf⟩ := DataW.trod_struct ht h
  match xs, hlen with
  | [y0, y1, y2, y3, y4, y5, y6, y7], _ => exact ⟨y0, y1, y2, y3, y4, y5, y6, y7, n, by simp, hl, by simpa using hf 0 f0 rfl, by simpa using hf 1 f1 rfl, by simpa using hf 2 f2 rfl, by simpa using hf 3 f3 rfl, by simpa using hf 4 f4 rfl, by simpa using hf 5 f5 rfl, by simpa using hf 6 f6 rfl, by simpa using hf 7 f7 rfl⟩
theorem weights_all {H : Type} {P : Program} {e : TypeId} {n : Nat} : ∀ {l : List (DataW H)} {d : DataW H}, d ∈ l → n ∈ d.weights P e → n ∈ DataW.weightsAll P e l
  | x :: l, d, h, hn => by
    simp only [DataW.weightsAll, List.mem_append]
    rcases List.mem_cons.1 h with rfl | h
    · exact .inl hn
    · exact .inr (weights_all h hn)
def act0 : ActD := ⟨0, 0, 0, 0, ⟨#[]⟩, ⟨#[]⟩, none, 0, 0, fun _ => 0, none, 0, 0⟩
set_option maxRecDepth 100000 in
theorem open_acts {H : Type} {enc : TypeId × Value → H} {W : World} {a : Option Addr} {len cap : Nat} {d : DataW H} {p : List MemPlace} (h : DataW.Trod enc Tryz.prog W 0 (fun _ => true) true 22 (.slice a len cap) d p) (hz : ∀ n ∈ d.weights Tryz.prog 22, n ≤ reachBytes) :
    (∃ A, liesActs W a len A) ∧ len ≤ cap ∧ (a = none → len = 0 ∧ cap = 0) ∧ len ≤ reachBytes := by
  haveI : Inhabited ActD := ⟨act0⟩
  obtain ⟨fuel, hf⟩ := h
  rcases open_slice Tryz.underlying22 hf with ⟨hcs, hx⟩ | ⟨ad, l, c, m, n, D, Pl, hcs, _, hl, _, hm, hx, hel⟩
  · simp [Value.cells] at hcs
    obtain ⟨rfl, rfl, rfl⟩ := hcs
    exact ⟨⟨fun _ => act0, .inl rfl⟩, Nat.le_refl _, fun _ => ⟨rfl, rfl⟩, Nat.zero_le _⟩
  · simp [Value.cells] at hcs
    obtain ⟨rfl, rfl, rfl⟩ := hcs
    simp only [if_true] at hm
    simp only [Prod.mk.injEq] at hx
    have hd := hx.1
    have hw : ∀ i, i < len → ∀ q ∈ (D i).weights Tryz.prog 39, q ≤ reachBytes := fun i hi q hq => by
      refine hz q ?_
      rw [hd]
      simp only [DataW.weights, Tryz.underlying22]
      exact List.mem_cons_of_mem _ (List.mem_append.2 (.inl (weights_all (List.mem_map.2 ⟨i, List.mem_range.2 hi, rfl⟩) hq)))
    have hlen0 : len ≤ reachBytes := by
      have := hz ((((List.range len).map D).length + ((List.range (m - len)).map fun j => D (len + j)).length) * Tryz.prog.bytesOf 39) (by
        rw [hd]
        simp only [DataW.weights, Tryz.underlying22]
        exact List.mem_cons_self ..)
      rw [bytesAct] at this
      simp only [List.length_map, List.length_range] at this
      omega
    have each : ∀ i, i < len → ∃ x : ActD, okAct W W.heap.size x ∧ ∀ j, j < 8 → W.cell? (ad.add (i * 8 + j)) = (actCells x)[j]? := by
      intro i hi
      obtain ⟨cs', h1, h2⟩ := hel i (by omega)
      rw [cellsAct] at h1
      obtain ⟨_, hlen, hcell⟩ := World.cells?_some h1
      obtain ⟨y0, y1, y2, y3, y4, y5, y6, y7, k, e8, _, g0, g1, g2, g3, g4, g5, g6, g7⟩ := trod8 Tryz.underlying39 h2
      rw [cIntA] at g0 g1 g2 g3
      rw [cStrA] at g4 g5
      rw [cIntsA] at g6
      rw [cTextsA] at g7
      obtain ⟨x0, e0, _, _⟩ := DataW.trod_int Tryz.underlying3 g0
      obtain ⟨x1, e1, _, _⟩ := DataW.trod_int Tryz.underlying3 g1
      obtain ⟨x2, e2, _, _⟩ := DataW.trod_int Tryz.underlying3 g2
      obtain ⟨x3, e3, _, w3⟩ := DataW.trod_int Tryz.underlying3 g3
      obtain ⟨x4, e4, _, _⟩ := DataW.trod_string Tryz.underlying9 g4
      obtain ⟨x5, e5, _, _⟩ := DataW.trod_string Tryz.underlying9 g5
      have q : ∀ j, j < 8 → W.cell? (ad.add (i * 8 + j)) = cs'[j]? := fun j hj => by
        have := hcell j (by omega)
        rw [add_add] at this
        exact this
      obtain ⟨ka, kn, kc, fk, e6, hk1, hk2⟩ : ∃ (ka : Option Addr) (kn kc : Nat) (fk : Nat → Int), (cs'.drop 6).take 1 = [.slice ka kn kc] ∧ kn * 8 ≤ 140737488351232 ∧ (kn = 0 ∨ ∃ b off, ka = some ⟨b, off, none⟩ ∧ b < W.heap.size ∧ ∀ j, j < kn → W.cell? ⟨b, off + j, none⟩ = some (.int .i64 (fk j))) := by
        rcases open_ints Tryz.underlying36 Tryz.underlying3 cIntA g6 with ⟨e6, hx6⟩ | ⟨ka, kn, kc, zs, e6, _, hkl, _, hzl, hx6, hkc, _⟩
        · exact ⟨none, 0, 0, fun _ => 0, e6, by omega, .inl rfl⟩
        · simp only [if_true] at hzl
          refine ⟨some ka, kn, kc, fun j => zs.getD j 0, e6, ?_, ?_⟩
          · have := hw i hi (((lits .i64 (zs.take kn) : List (DataW H)).length + (lits .i64 (zs.drop kn) : List (DataW H)).length) * Tryz.prog.bytesOf 3) (by
              have e8' : D i = _ := e8
              rw [e8']
              simp only [DataW.weights, Tryz.underlying39]
              refine DataW.weights_mem_each (j := 6) (t := 36) rfl rfl _ ?_
              rw [hx6]
              simp only [DataW.weights, Tryz.underlying36]
              exact List.mem_cons_self ..)
            rw [bytesIntA] at this
            simp [lits] at this
            unfold reachBytes at this
            omega
          · by_cases h0 : kn = 0
            · exact .inl h0
            · obtain ⟨b, off, spot⟩ := ka
              have h1 := hkc 0 (by omega)
              have hspot : spot = none := by simpa [Addr.add] using World.cell?_spot h1
              subst hspot
              rw [Addr.add_lit] at h1
              exact .inr ⟨b, off, rfl, cell_ltA h1, fun j hj => by
                have := hkc j (by omega)
                rwa [Addr.add_lit] at this⟩
      obtain ⟨ca, cn, cc, e7⟩ : ∃ (ca : Option Addr) (cn cc : Nat), (cs'.drop 7).take 1 = [.slice ca cn cc] := by
        rcases open_strs Tryz.underlying37 Tryz.underlying9 cStrA g7 with ⟨e, _⟩ | ⟨a', l', c', _, _, e, _⟩
        · exact ⟨_, _, _, e⟩
        · exact ⟨_, _, _, e⟩
      match cs', hlen with
      | [v0, v1, v2, v3, v4, v5, v6, v7], _ =>
        simp at e0 e1 e2 e3 e4 e5 e6 e7
        subst e0 e1 e2 e3 e4 e5 e6 e7
        exact ⟨⟨x0, x1, x2, x3, x4, x5, ka, kn, kc, fk, ca, cn, cc⟩, ⟨bounds_i64 w3, hk1, hk2⟩, q⟩
    obtain ⟨A, hA⟩ := choose_lt each
    refine ⟨⟨A, ?_⟩, hl, (fun e => by cases e), hlen0⟩
    by_cases h0 : len = 0
    · exact .inl h0
    · right
      obtain ⟨b, off, spot⟩ := ad
      have h1 := (hA 0 (by omega)).2 0 (by decide)
      have h1' : W.cell? ((⟨b, off, spot⟩ : Addr).add 0) = some (.int .i64 (A 0).k) := h1
      have hspot : spot = none := by simpa [Addr.add] using World.cell?_spot h1'
      subst hspot
      rw [Addr.add_lit] at h1'
      refine ⟨b, off, rfl, cell_ltA h1', fun i hi => ⟨(hA i hi).1, fun j hj => ?_⟩⟩
      have := (hA i hi).2 j hj
      rwa [Addr.add_lit] at this
end Go.Proofs.YtfjkockcgddgbaaGreat
