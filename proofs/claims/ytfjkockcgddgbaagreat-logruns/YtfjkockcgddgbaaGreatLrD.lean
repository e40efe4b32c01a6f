/- the document's log in memory; tell -/
import Derived.Test.YtfjkockcgddgbaaGreatLrC
import Derived.Test.YtfjkockcgddgbaaGreatWal6
namespace Go.Proofs.YtfjkockcgddgbaaGreat
open Go.RowKit Go.Lib
attribute [local go_sem ↓] Go.wp_at_zero Go.wp_at_succ
def frC (x : Int × ByteArray) : List Value := [.int .i64 x.1, .string x.2]
def frsC (l : List (Int × ByteArray)) : List Value := l.flatMap frC
theorem frsC_len : ∀ l : List (Int × ByteArray), (frsC l).length = l.length * 2
  | [] => rfl
  | x :: r => by
    show (frC x ++ frsC r).length = (r.length + 1) * 2
    rw [List.length_append, frsC_len r]
    show 2 + _ = _
    omega
theorem frsC_get : ∀ {l : List (Int × ByteArray)} {i : Nat} (h : i < l.length) {j : Nat}, j < 2 → (frsC l)[i * 2 + j]? = (frC l[i])[j]?
  | x :: r, 0, h, j, hj => by
    show (frC x ++ frsC r)[0 * 2 + j]? = _
    rw [List.getElem?_append_left (by show 0 * 2 + j < 2; omega)]
    simp
  | x :: r, i + 1, h, j, hj => by
    show (frC x ++ frsC r)[(i + 1) * 2 + j]? = _
    rw [List.getElem?_append_right (by show 2 ≤ _; omega)]
    show (frsC r)[(i + 1) * 2 + j - 2]? = _
    rw [show (i + 1) * 2 + j - 2 = i * 2 + j by omega, frsC_get (by simpa using h) hj]
    simp
theorem frsC_snoc (l : List (Int × ByteArray)) (x : Int × ByteArray) : frsC (l ++ [x]) = frsC l ++ frC x := by simp [frsC]
def rlC (R : Nat) (vf : Value) (c : Cm) : Array Value := #[(.pointer (some ⟨R, 0, none⟩)), vf, .int .i64 c.frames, .int .i64 c.pages, .int .i64 c.slot, .int .i64 c.number]
structure RLx (X : World) (B R M : Nat) (fs : List (Int × ByteArray)) (vf : Value) (c : Cm) (S : DS) : Prop where
  blk : X.heap[M]? = some (.cells (rlC R vf c) 56 (0, 0))
  low : B ≤ M
  row : X.ownsRow B 102 2 vf fs.length (frsC fs)
  dsk : RDs X B R S
def RL (X : World) (B R M : Nat) (fs : List (Int × ByteArray)) (c : Cm) (S : DS) : Prop := ∃ vf, RLx X B R M fs vf c S
/- the types of the document's blocks -/
def tyL (e : TypeId) : Bool := tyR e || decide (e = 56)
theorem BelT.toL {B : Nat} {X Y : World} (h : BelT tyR B X Y) : BelT tyL B X Y := ⟨h.toBelow, fun b hb hf => h.far b hb (fun cur e fz he => by
  have := hf cur e fz he
  unfold tyL at this
  simp only [Bool.or_eq_false_iff] at this
  exact this.1)⟩
theorem RLx.lt {X : World} {B R M : Nat} {fs : List (Int × ByteArray)} {vf : Value} {c : Cm} {S : DS} (h : RLx X B R M fs vf c S) : M < X.heap.size := (Array.getElem?_eq_some_iff.1 h.blk).1
theorem RL.lt {X : World} {B R M : Nat} {fs : List (Int × ByteArray)} {c : Cm} {S : DS} (h : RL X B R M fs c S) : M < X.heap.size := by obtain ⟨vf, h⟩ := h; exact h.lt
theorem RL.low {X : World} {B R M : Nat} {fs : List (Int × ByteArray)} {c : Cm} {S : DS} (h : RL X B R M fs c S) : B ≤ M := by obtain ⟨vf, h⟩ := h; exact h.low
theorem RL.dsk {X : World} {B R M : Nat} {fs : List (Int × ByteArray)} {c : Cm} {S : DS} (h : RL X B R M fs c S) : RDs X B R S := by obtain ⟨vf, h⟩ := h; exact h.dsk
theorem RLx.below {X Y : World} {B R M : Nat} {fs : List (Int × ByteArray)} {vf : Value} {c : Cm} {S : DS} (h : RLx X B R M fs vf c S) (hb : Below X.heap.size X Y) : RLx Y B R M fs vf c S :=
  ⟨(hb.block M h.lt).trans h.blk, h.low, row_below h.row hb, h.dsk.below hb⟩
theorem RL.below {X Y : World} {B R M : Nat} {fs : List (Int × ByteArray)} {c : Cm} {S : DS} (h : RL X B R M fs c S) (hb : Below X.heap.size X Y) : RL Y B R M fs c S := by
  obtain ⟨vf, h⟩ := h
  exact ⟨vf, h.below hb⟩
theorem RLx.cells {X : World} {B R M : Nat} {fs : List (Int × ByteArray)} {vf : Value} {c : Cm} {S : DS} (h : RLx X B R M fs vf c S) :
    X.cell? ⟨M, 0, none⟩ = some (.pointer (some ⟨R, 0, none⟩)) ∧ X.cell? ⟨M, 1, none⟩ = some vf ∧ X.cell? ⟨M, 2, none⟩ = some (.int .i64 c.frames) ∧ X.cell? ⟨M, 3, none⟩ = some (.int .i64 c.pages) ∧ X.cell? ⟨M, 4, none⟩ = some (.int .i64 c.slot) ∧ X.cell? ⟨M, 5, none⟩ = some (.int .i64 c.number) := by
  refine ⟨?_, ?_, ?_, ?_, ?_, ?_⟩ <;> simp [World.cell?, h.blk, rlC]
theorem RLx.unfrozen {X : World} {B R M : Nat} {fs : List (Int × ByteArray)} {vf : Value} {c : Cm} {S : DS} (h : RLx X B R M fs vf c S) (k : Nat) : X.frozen? ⟨M, k, none⟩ = false := by simp [World.frozen?, h.blk]
theorem RLx.nf {X : World} {B R M : Nat} {fs : List (Int × ByteArray)} {vf : Value} {c : Cm} {S : DS} (h : RLx X B R M fs vf c S) : ¬ farT tyL X M := blk_nf (by decide) h.blk
/- the disk works, the log stays -/
theorem RLx.disk {X Y : World} {B R M : Nat} {fs : List (Int × ByteArray)} {vf : Value} {c : Cm} {S S' : DS} (h : RLx X B R M fs vf c S) (hb : BelT tyR B X Y) (hd : RDs Y B R S') : RLx Y B R M fs vf c S' :=
  ⟨(hb.far M h.lt (far_blk (by decide) h.blk)).trans h.blk, h.low, row_keep h.row (fun g hg => hb.far g (far_row (T := tyR) (by decide) h.row g hg).1 (far_row (T := tyR) (by decide) h.row g hg).2), hd⟩
theorem RDs.grown {X Y : World} {B R b : Nat} {S : DS} (h : RDs X B R S) (hg : X.grownBy Y (some b)) (hf : farT tyR X b) : RDs Y B R S := by
  obtain ⟨l0, l1, vw, h⟩ := h
  refine ⟨l0, l1, vw, ⟨⟨(hg.block R h.rd.lt (fun e => ?_)).trans h.rd.blk, h.rd.low, row_keep h.rd.wrow (fun g hg' => ?_), h.rd.s0, h.rd.s1, h.rd.oks⟩, h.e1, h.e3, h.sees⟩⟩
  · injection e with e
    subst e
    exact h.rd.nf hf
  · refine hg.block g (World.ownsRow.lt h.rd.wrow g hg').2 (fun e => ?_)
    injection e with e
    subst e
    exact (row_nf (T := tyR) (by decide) h.rd.wrow g hg').2 hf
/- a cell of the log's own block is written -/
theorem RLx.own {X : World} {B R M k : Nat} {fs : List (Int × ByteArray)} {vf : Value} {c c' : Cm} {S : DS} {v : Value} (h : RLx X B R M fs vf c S) (he : (rlC R vf c).setIfInBounds k v = rlC R vf c') : RLx (X.setCell ⟨M, k, none⟩ v) B R M fs vf c' S := by
  have hg := set_grown X M k v
  refine ⟨by rw [set_blk h.blk, he], h.low, row_keep h.row (fun g hg' => hg.block g (World.ownsRow.lt h.row g hg').2 (fun e => ?_)), h.dsk.grown hg (far_blk (by decide) h.blk)⟩
  injection e with e
  subst e
  exact (row_nf (T := fun t => decide (t = 102)) (by decide) h.row g hg').2 (far_blk (by decide) h.blk)
/- .. another list of frames -/
theorem RLx.frames {X Y : World} {B R M : Nat} {fs fs' : List (Int × ByteArray)} {vf vf' : Value} {c : Cm} {S : DS} (h : RLx X B R M fs vf c S) (hb : Below X.heap.size X Y) (hr : Y.ownsRow B 102 2 vf' fs'.length (frsC fs')) : RLx (Y.setCell ⟨M, 1, none⟩ vf') B R M fs' vf' c S := by
  have hY := h.below hb
  have hg := set_grown Y M 1 vf'
  refine ⟨by rw [set_blk hY.blk]; rfl, h.low, row_keep hr (fun g hg' => hg.block g (World.ownsRow.lt hr g hg').2 (fun e => ?_)), hY.dsk.grown hg (far_blk (by decide) hY.blk)⟩
  injection e with e
  subst e
  exact (row_nf (T := fun t => decide (t = 102)) (by decide) hr g hg').2 (far_blk (by decide) hY.blk)
theorem set_L {X Y : World} {B M k : Nat} {v : Value} (h : BelT tyL B X Y) (hM : B ≤ M) (hf : M < X.heap.size → ¬ farT tyL X M) : BelT tyL B X (Y.setCell ⟨M, k, none⟩ v) := h.setCell hM hf v
theorem RLx.told {X : World} {B R M : Nat} {fs : List (Int × ByteArray)} {vf : Value} {c : Cm} {S : DS} (h : RLx X B R M fs vf c S) (s n f p : Nat) : RLx ((((X.setCell ⟨M, 4, none⟩ (.int .i64 s)).setCell ⟨M, 5, none⟩ (.int .i64 n)).setCell ⟨M, 2, none⟩ (.int .i64 f)).setCell ⟨M, 3, none⟩ (.int .i64 p)) B R M fs vf ⟨s, n, f, p⟩ S := by
  have h1 : RLx (X.setCell ⟨M, 4, none⟩ (.int .i64 s)) B R M fs vf ⟨s, c.number, c.frames, c.pages⟩ S := h.own rfl
  have h2 : RLx ((X.setCell ⟨M, 4, none⟩ (.int .i64 s)).setCell ⟨M, 5, none⟩ (.int .i64 n)) B R M fs vf ⟨s, n, c.frames, c.pages⟩ S := h1.own rfl
  have h3 : RLx (((X.setCell ⟨M, 4, none⟩ (.int .i64 s)).setCell ⟨M, 5, none⟩ (.int .i64 n)).setCell ⟨M, 2, none⟩ (.int .i64 f)) B R M fs vf ⟨s, n, f, c.pages⟩ S := h2.own rfl
  exact h3.own rfl
theorem told_L {X Y : World} {B M : Nat} {v1 v2 v3 v4 : Value} (h : BelT tyL B X Y) (hM : B ≤ M) (hf : M < X.heap.size → ¬ farT tyL X M) : BelT tyL B X ((((Y.setCell ⟨M, 4, none⟩ v1).setCell ⟨M, 5, none⟩ v2).setCell ⟨M, 2, none⟩ v3).setCell ⟨M, 3, none⟩ v4) := (((h.setCell hM hf v1).setCell hM hf v2).setCell hM hf v3).setCell hM hf v4
theorem nx_mod {n : Nat} : ((n : Int) % 3 + 1) = ((nxN n : Nat) : Int) := by unfold nxN; omega
set_option maxRecDepth 20000 in
set_option maxHeartbeats 1000000 in
theorem rtell (fr pg : Nat) (X : World) (B R M m : Nat) (fs : List (Int × ByteArray)) (c : Cm) (S : DS) (h : RL X B R M fs c S) (hB : B ≤ X.heap.size) (ho : okS S m) (hm : m ≤ 900000) (hc : okCm c) (hfr : fr < 4294967296) (hpg : pg < 4294967296) (L : LS) (hL : L.last = c) :
    Calls Tryz.prog 65 #[(.pointer (some ⟨M, 0, none⟩)), .int .i64 fr, .int .i64 pg] X fun e w' => e = .returned (.int .i64 (tlL L S fr pg).1) ∧ RL w' B R M fs (tlL L S fr pg).2.1.last (tlL L S fr pg).2.2 ∧ BelT tyL B X w' := by
  obtain ⟨r1, S1, h1⟩ : ∃ r S2, opD S 1 (16 + 24 * ((1 - c.slot : Nat) : Int)) (txtB (nxN c.number) fr pg) false = (r, S2) := ⟨_, _, rfl⟩
  obtain ⟨r2, S2, h2⟩ : ∃ r S2, synD S1 1 = (r, S2) := ⟨_, _, rfl⟩
  have o1 : okS S1 (m + 1) := by have := opD_ok ho 1 (16 + 24 * ((1 - c.slot : Nat) : Int)) (txtB (nxN c.number) fr pg) false; rw [h1] at this; exact this
  have e9 : tlL L S fr pg = (if r1 = 0 then (if r2 = 0 then (0, { L with last := flC c fr pg, fr := fr }, S2) else (r2, L, S2)) else (r1, L, S1)) := by
    unfold tlL
    rw [hL, h1]
    by_cases k1 : r1 = 0
    · subst k1
      simp only [if_true]
      rw [h2]
    · rw [if_neg k1, if_neg k1]
  rw [e9]
  clear e9
  obtain ⟨vf, h⟩ := h
  obtain ⟨c0, c1, c2, c3, c4, c5⟩ := h.cells
  have HP : Hid (RLx X B R M fs vf c S) := h
  have HB0 : Hid (B ≤ X.heap.size) := hB
  have HO : Hid (okS S m ∧ m ≤ 1000000) := (⟨ho, by omega⟩ : okS S m ∧ m ≤ 1000000)
  have HO1 : Hid (okS S1 (m + 1) ∧ m + 1 ≤ 1000000) := (⟨o1, by omega⟩ : okS S1 (m + 1) ∧ m + 1 ≤ 1000000)
  have H1 : Hid _ := h1
  have H2 : Hid _ := h2
  have HLL : Hid (L.last = c) := hL
  have hM := h.lt
  obtain ⟨sl, nm, ff, pp⟩ := c
  have s1 : sl ≤ 1 := hc.slot
  have n1 : nm ≤ 3 := hc.number
  have e1 : (1 : Int) - (sl : Int) = ((1 - sl : Nat) : Int) := by omega
  have hwr : IntKind.i64.wrap (1 - (sl : Int)) = ((1 - sl : Nat) : Int) := by rw [IntKind.wrap_i64]; omega
  clear h hB ho h1 h2 o1 hc hL
  go_enter Tryz.func65, Tryz.ntmps65
  go_upto_region 1 with fail
  go_quiet (fail)
  go_upto_region 2 with fail
  have hdB : Below X.heap.size X (X.drewN nq) := ⟨rfl, rfl, rfl, Nat.le_refl _, fun _ _ => rfl⟩
  have HW : Hid (RLx (X.drewN nq) B R M fs vf ⟨sl, nm, ff, pp⟩ S) := HP.out.below hdB
  have HBX : Hid (BelT tyL B X (X.drewN nq)) := ⟨hdB.mono HB0.out, fun b hb _ => hdB.block b hb⟩
  have HBW : Hid (B ≤ (X.drewN nq).heap.size) := HB0.out
  have HNF : Hid (M < X.heap.size → ¬ farT tyL X M) := fun _ => HP.out.nf
  obtain ⟨nn, hnn⟩ : ∃ nn : Nat, nn = nxN nm := ⟨_, rfl⟩
  rw [nx_mod, ← hnn]
  have hn4 : nn ≤ 3 := by rw [hnn]; unfold nxN; omega
  have H1' : Hid (opD S 1 (16 + 24 * ((1 - sl : Nat) : Int)) (txtB nn fr pg) false = (r1, S1)) := by rw [hnn]; exact H1.out
  have HNN : Hid (nn = nxN nm) := hnn
  have HLOW : Hid (B ≤ M) := HP.out.low
  obtain ⟨sx, hsx⟩ : ∃ sx : Nat, sx = 1 - sl := ⟨_, rfl⟩
  have HSX : Hid (sx = 1 - sl) := hsx
  have hs1 : sx ≤ 1 := by omega
  rw [← hsx] at H1' ⊢
  clear hdB hM c0 c1 c2 c3 c4 c5 H1 hnn e1 hwr hsx
  generalize X.drewN nq = W at *
  obtain ⟨c0, c1, c2, c3, c4, c5⟩ := HW.out.cells
  have hM := HW.out.lt
  have HW1 : Hid (IntKind.i64.wrap (24 * (sx : Int)) = 24 * (sx : Int)) := by
    show IntKind.i64.wrap (24 * (sx : Int)) = 24 * (sx : Int)
    rw [IntKind.wrap_i64]; omega
  have HW2 : Hid (IntKind.i64.wrap (16 + 24 * (sx : Int)) = 16 + 24 * (sx : Int)) := by
    show IntKind.i64.wrap (16 + 24 * (sx : Int)) = 16 + 24 * (sx : Int)
    rw [IntKind.wrap_i64]; omega
  go_cut [9] (fun x wx => x = .int .i64 r1 ∧ Hid (RLx wx B R M fs vf ⟨sl, nm, ff, pp⟩ S1) ∧ Hid (BelT tyL B X wx))
  case first =>
    go_region_with (first | (go_at_call 93; refine (rslot nn fr pg _ (by omega) (by omega) (by omega)).mono ?_; rintro e w4 ⟨rfl, hb4⟩; have HX4 : Hid (Below W.heap.size W w4) := undrewB hb4; obtain ⟨hc4, hf4⟩ := bcell HX4.out; clear hb4) | (go_at_call 60; rw [HW1.out, HW2.out]; refine (rwriteD 1 (16 + 24 * (sx : Int)) (txtB nn fr pg) _ B R S m (HW.out.dsk.below HX4.out) (Nat.le_trans HBW.out HX4.out.size) HO.out.1 HO.out.2).mono ?_; rw [H1'.out]; rintro e w5 ⟨rfl, hp5, hb5⟩))
    all_goals
      go_wp2_with fail
      go_meet
      case rel => exact ⟨rfl, (HW.out.below HX4.out).disk hb5 hp5, HBX.out.trans ((⟨HX4.out.mono HBW.out, fun b hb _ => HX4.out.block b hb⟩ : BelT tyL B W w4).trans hb5.toL)⟩
  case rest =>
    obtain ⟨rfl, HL5, HF5⟩ := hcut
    have HB5 : Hid (B ≤ wc.heap.size) := Nat.le_trans HB0.out HF5.out.size
    clear HW HBX c0 c1 c2 c3 c4 c5 hM
    by_cases hr : r1 = 0
    · subst hr
      obtain ⟨d0, d1, d2, d3, d4, d5⟩ := HL5.out.cells
      have hM5 := HL5.out.lt
      go_wp2_with fail
      refine (rsyncD 1 wc B R S1 (m + 1) HL5.out.dsk HB5.out HO1.out.1 HO1.out.2).mono ?_
      rw [H2.out]
      rintro e w6 ⟨rfl, hp6, hb6⟩
      have HL6 : Hid (RLx w6 B R M fs vf ⟨sl, nm, ff, pp⟩ S2) := HL5.out.disk hb6 hp6
      have HF6 : Hid (BelT tyL B X w6) := HF5.out.trans hb6.toL
      clear hp6 hb6 d0 d1 d2 d3 d4 d5 hM5 HL5 HF5
      by_cases hr2 : r2 = 0
      · subst hr2
        obtain ⟨d0, d1, d2, d3, d4, d5⟩ := HL6.out.cells
        have f2 := HL6.out.unfrozen 2
        have f3 := HL6.out.unfrozen 3
        have f4 := HL6.out.unfrozen 4
        have f5 := HL6.out.unfrozen 5
        have HZ : Hid (RLx ((((w6.setCell ⟨M, 4, none⟩ (.int .i64 sx)).setCell ⟨M, 5, none⟩ (.int .i64 nn)).setCell ⟨M, 2, none⟩ (.int .i64 fr)).setCell ⟨M, 3, none⟩ (.int .i64 pg)) B R M fs vf (flC ⟨sl, nm, ff, pp⟩ fr pg) S2) := by
          have := HL6.out.told sx nn fr pg
          rw [HSX.out, HNN.out] at this
          rw [HSX.out, HNN.out]
          exact this
        go_wp2
        go_ret
        exact ⟨rfl, ⟨vf, HZ.out⟩, told_L HF6.out HLOW.out HNF.out⟩
      · have hz : (r2 == 0) = false := by simpa using hr2
        go_wp2
        go_ret
        exact ⟨rfl, ⟨vf, by rw [HLL.out]; exact HL6.out⟩, HF6.out⟩
    · have hz : (r1 == 0) = false := by simpa using hr
      go_wp2
      go_ret
      exact ⟨rfl, ⟨vf, by rw [HLL.out]; exact HL5.out⟩, HF5.out⟩
end Go.Proofs.YtfjkockcgddgbaaGreat
