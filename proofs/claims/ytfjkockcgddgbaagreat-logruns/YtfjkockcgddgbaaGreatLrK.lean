/- relstoreref: OpenLog of a log that tells a commit -/
import Derived.Test.YtfjkockcgddgbaaGreatLrJ
namespace Go.Proofs.YtfjkockcgddgbaaGreat
open Go.RowKit Go.Lib
attribute [local go_sem ↓] Go.wp_at_zero Go.wp_at_succ
theorem step_callR {P : Program} {ops : Array Oper} {o : Oper} {a : Act} {w : World} {K : Act → World → Prop} {Q : Exit → Act → World → Prop} {E : Prop} (hg : o.guard = none)
    {f : FuncId} {args : Array Value} {R : Value → World → Prop} (hr : (execOp a.eval o).run P w = .ok (.enter f args) w)
    (hc : Calls P f args w fun e w' => ∃ v, e = .returned v ∧ R v w') (hK : ∀ v w', R v w' → K (a.put o.dst v) w') :
    if Region.wanted o (yielded ops a.tmps) = true then Oper.wp P o a w K Q else E := by
  have hw : Region.wanted o (yielded ops a.tmps) = true := by simp [Region.wanted, hg]
  rw [if_pos hw]
  simp only [Oper.wp, hr, Oper.upon]
  refine hc.mono fun e w' he => ?_
  obtain ⟨v, rfl, hR⟩ := he
  exact hK v w' hR
theorem owns_slice2 {W : World} {base n : Nat} {v : Value} {xs : List Value} (h : W.ownsRow base 102 2 v n xs) : ∃ a cap, v = .slice a n cap := by
  rcases owns_sliceF h with ⟨h1, h2⟩ | ⟨g, cap, h1, h2⟩
  · exact ⟨none, 0, by rw [h1, h2]⟩
  · exact ⟨_, cap, h1⟩
theorem cut_txS (log : List UInt8) (p n : Nat) : (txS log).extract p (p + n) = ⟨((log.drop p).take n).toArray⟩ := by
  apply ll_inj
  rw [ll_extract]
  show (log.take (p + n)).drop p = (log.drop p).take n
  rw [List.drop_take]
  congr 1
  omega
/- the log while its frames are read -/
structure OpR (X w : World) (R M : Nat) (fs : List (Int × ByteArray)) (vf : Value) (c : Cm) : Prop where
  blk : w.heap[M]? = some (.cells (rlC R vf c) 56 (0, 0))
  row : w.ownsRow X.heap.size 102 2 vf fs.length (frsC fs)
  bel : Below X.heap.size X w
  low : X.heap.size ≤ M
theorem OpR.cells {X w : World} {R M : Nat} {fs : List (Int × ByteArray)} {vf : Value} {c : Cm} (h : OpR X w R M fs vf c) :
    (w.cell? ⟨M, 0, none⟩ = some (.pointer (some ⟨R, 0, none⟩)) ∧ w.cell? ⟨M, 1, none⟩ = some vf ∧ w.cell? ⟨M, 2, none⟩ = some (.int .i64 c.frames) ∧ w.cell? ⟨M, 3, none⟩ = some (.int .i64 c.pages) ∧ w.cell? ⟨M, 4, none⟩ = some (.int .i64 c.slot) ∧ w.cell? ⟨M, 5, none⟩ = some (.int .i64 c.number)) ∧ (∀ k, w.frozen? ⟨M, k, none⟩ = false) ∧ M < w.heap.size := by
  refine ⟨⟨?_, ?_, ?_, ?_, ?_, ?_⟩, fun k => by simp [World.frozen?, h.blk], (Array.getElem?_eq_some_iff.1 h.blk).1⟩ <;> simp [World.cell?, h.blk, rlC]
theorem own_low {W : World} {base B n : Nat} {e : TypeId} {v : Value} {size : Nat} {xs : List Value} (h : W.ownsRow base e size v n xs) (hB : B ≤ base) : W.ownsRow B e size v n xs := by
  refine ⟨h.1, ?_⟩
  rcases h.2 with h2 | ⟨g, cap, cur, h1, h2, h3⟩
  · exact .inl h2
  · exact .inr ⟨g, cap, cur, h1, Nat.le_trans hB h2, h3⟩
theorem OpR.rl {X w : World} {B R M : Nat} {fs : List (Int × ByteArray)} {vf : Value} {c : Cm} {S : DS} (h : OpR X w R M fs vf c) (hB : B ≤ X.heap.size) (hd : RDs X B R S) : RLx w B R M fs vf c S :=
  ⟨h.blk, Nat.le_trans hB h.low, own_low h.row hB, hd.below h.bel⟩
theorem OpR.below {X w w' : World} {R M : Nat} {fs : List (Int × ByteArray)} {vf : Value} {c : Cm} (h : OpR X w R M fs vf c) (hb : Below w.heap.size w w') : OpR X w' R M fs vf c :=
  ⟨(hb.block M (Array.getElem?_eq_some_iff.1 h.blk).1).trans h.blk, row_below h.row hb, h.bel.trans (hb.mono h.bel.size), h.low⟩
theorem OpR.own {X w : World} {R M k : Nat} {fs : List (Int × ByteArray)} {vf : Value} {c c' : Cm} {v : Value} (h : OpR X w R M fs vf c) (he : (rlC R vf c).setIfInBounds k v = rlC R vf c') : OpR X (w.setCell ⟨M, k, none⟩ v) R M fs vf c' := by
  have hg := set_grown w M k v
  refine ⟨by rw [set_blk h.blk, he], row_keep h.row (fun g hg' => hg.block g (World.ownsRow.lt h.row g hg').2 (fun e => ?_)), h.bel.setCell h.low _, h.low⟩
  injection e with e
  subst e
  exact (row_nf (T := fun t => decide (t = 102)) (by decide) h.row g hg').2 (far_blk (by decide) h.blk)
theorem OpR.grow {X w Y : World} {R M : Nat} {fs fs' : List (Int × ByteArray)} {vf vf' : Value} {c : Cm} (h : OpR X w R M fs vf c) (hb : But w Y vf.ownBlock) (hr : Y.ownsRow X.heap.size 102 2 vf' fs'.length (frsC fs')) : OpR X (Y.setCell ⟨M, 1, none⟩ vf') R M fs' vf' c ∧ Y.cell? ⟨M, 1, none⟩ = some vf ∧ Y.frozen? ⟨M, 1, none⟩ = false ∧ M < Y.heap.size := by
  have hM := h.cells.2.2
  have hne : ∀ b, vf.ownBlock = some b → ¬ M = b := fun b hvb e => by
    subst e
    exact (row_nf (T := fun t => decide (t = 102)) (by decide) h.row M hvb).2 (far_blk (by decide) h.blk)
  have hY : Y.heap[M]? = some (.cells (rlC R vf c) 56 (0, 0)) := (hb.block M hM (fun e => hne M e.symm rfl)).trans h.blk
  have hbel : Below X.heap.size X Y := ⟨by rw [hb.os]; exact h.bel.os, by rw [hb.tape]; exact h.bel.tape, by rw [hb.output]; exact h.bel.output, Nat.le_trans h.bel.size hb.size, fun b hlt => (hb.block b (Nat.lt_of_lt_of_le hlt h.bel.size) (fun e => by
    have := (World.ownsRow.lt h.row b e.symm).1
    omega)).trans (h.bel.block b hlt)⟩
  have hg := set_grown Y M 1 vf'
  refine ⟨⟨by rw [set_blk hY]; rfl, row_keep hr (fun g hg' => hg.block g (World.ownsRow.lt hr g hg').2 (fun e => ?_)), hbel.setCell h.low _, h.low⟩, by simp [World.cell?, hY, rlC], by simp [World.frozen?, hY], (Array.getElem?_eq_some_iff.1 hY).1⟩
  injection e with e
  subst e
  exact (row_nf (T := fun t => decide (t = 102)) (by decide) hr g hg').2 (far_blk (by decide) hY)
theorem OpR.told {X w : World} {R M : Nat} {fs : List (Int × ByteArray)} {vf : Value} {c : Cm} (h : OpR X w R M fs vf c) (n f p : Nat) : OpR X (((w.setCell ⟨M, 5, none⟩ (.int .i64 n)).setCell ⟨M, 2, none⟩ (.int .i64 f)).setCell ⟨M, 3, none⟩ (.int .i64 p)) R M fs vf ⟨c.slot, n, f, p⟩ := by
  have h1 : OpR X (w.setCell ⟨M, 5, none⟩ (.int .i64 n)) R M fs vf ⟨c.slot, n, c.frames, c.pages⟩ := h.own rfl
  have h2 : OpR X ((w.setCell ⟨M, 5, none⟩ (.int .i64 n)).setCell ⟨M, 2, none⟩ (.int .i64 f)) R M fs vf ⟨c.slot, n, f, c.pages⟩ := h1.own rfl
  exact h2.own rfl
theorem log_new2 (X w : World) (R pg : Nat) (hb : Below X.heap.size X w) : OpR X (w.alloc (.cells #[(.pointer (some ⟨R, 0, none⟩)), .slice none 0 0, .int .i64 0, .int .i64 pg, .int .i64 0, .int .i64 0] 56)) R w.heap.size [] (.slice none 0 0) ⟨0, 0, 0, pg⟩ :=
  ⟨heap_alloc_new w _, World.ownsRow_nil _ _ _ _, hb.alloc hb.size _, hb.size⟩
set_option maxRecDepth 20000 in
set_option maxHeartbeats 2000000 in
theorem ropen1 (X : World) (B R m : Nat) (S : DS) (h : RDs X B R S) (hB : B ≤ X.heap.size) (ho : okS S m) (hm : m ≤ 800000) (hd : S.down = false) (hl : ¬ (lastC (S.lb 2)).number = 0) :
    Calls Tryz.prog 8 #[(.pointer (some ⟨R, 0, none⟩))] X fun e w' => ∃ M, e = .returned (.tuple #[(.pointer (some ⟨M, 0, none⟩)), .int .i64 0]) ∧ RL w' B R M (frL (S.lb 2) (lastC (S.lb 2)).frames) (lastC (S.lb 2)) S ∧ Below X.heap.size X w' := by
  obtain ⟨pg, hpg⟩ : ∃ pg, pg = (S.lb 0).length / 1024 := ⟨_, rfl⟩
  obtain ⟨g4, hR⟩ := rdown h
  rw [hd] at g4
  have HD : Hid (RDs X B R S) := h
  have HB0 : Hid (B ≤ X.heap.size) := hB
  have HO : Hid (okS S m ∧ m ≤ 1000000) := (⟨ho, by omega⟩ : okS S m ∧ m ≤ 1000000)
  have hlen := h.len
  have hsz0 := txS_size (S.lb 0)
  have hsz2 := txS_size (S.lb 2)
  have HS0 : Hid (∀ W, RDs W B R S → Calls Tryz.prog 48 #[(.pointer (some ⟨R, 0, none⟩)), .int .i64 0] W fun e w' => e = .returned (.string (txS (S.lb 0))) ∧ Below W.heap.size W w') := fun W hW => rseenD 0 (by decide) W B R S m hW HO.out.1 HO.out.2
  have HS1 : Hid (∀ W, RDs W B R S → Calls Tryz.prog 48 #[(.pointer (some ⟨R, 0, none⟩)), .int .i64 1] W fun e w' => e = .returned (.string (txS (S.lb 2))) ∧ Below W.heap.size W w') := fun W hW => rseenD 1 (by decide) W B R S m hW HO.out.1 HO.out.2
  obtain ⟨s0, hs0⟩ : ∃ s0, s0 = txS (S.lb 0) := ⟨_, rfl⟩
  obtain ⟨s, hs⟩ : ∃ s, s = txS (S.lb 2) := ⟨_, rfl⟩
  rw [← hs0] at HS0 hsz0
  rw [← hs] at HS1 hsz2
  have hp : ((s0.size : Int)) / 1024 = (pg : Int) := by rw [hsz0, hpg]; omega
  have z0 : (s0.size : Int) ≤ 67108864 := by rw [hsz0]; have := hlen.1; omega
  have z2 : s.size ≤ 67108864 := by rw [hsz2]; exact hlen.2.2.1
  have z1 : pg ≤ 65536 := by rw [hpg]; have := hlen.1; omega
  have hmk : isMark s = true := by
    rw [last_txS, ← hs] at hl
    cases hq : isMark s with
    | true => rfl
    | false => rw [hq] at hl; exact absurd rfl hl
  have hmm := of_decide_eq_true hmk
  have hC : lastC (S.lb 2) = pickC (toldA s (16 + 24 * 0) 0 s.size) (toldA s (16 + 24 * 1) 1 s.size) := by
    rw [last_txS, ← hs, if_pos hmk, ← hsz2]
  have hfit := last_fits (log := S.lb 2)
  have hok := last_ok (S.lb 2)
  obtain ⟨c, hc⟩ : ∃ c, c = lastC (S.lb 2) := ⟨_, rfl⟩
  obtain ⟨log, hlog⟩ : ∃ log, log = S.lb 2 := ⟨_, rfl⟩
  rw [← hc] at hC hl hfit hok ⊢
  rw [← hlog] at hs hsz2 hfit ⊢
  have h16 : (16 : Int) ≤ (s.size : Int) := by have := hmm.1; omega
  have hsl : ∀ W, (Instr.slice 9 (.string s) none (some (.int .i64 16)) none).run Tryz.prog W = .ok (.string (⟨#[114, 101, 108, 115, 116, 111, 114, 101, 32, 108, 111, 103, 32, 48, 48, 49]⟩ : ByteArray)) W := fun W => by
    rw [run_slice_string_h W 9 s Tryz.underlying9 .i64 16 (by decide) h16]
    show Result.ok (Value.string (s.extract 0 16)) W = _
    rw [hmm.2]; rfl
  have HC : Hid (c = pickC (toldA s (16 + 24 * 0) 0 s.size) (toldA s (16 + 24 * 1) 1 s.size)) := hC
  have HL : Hid (¬ c.number = 0) := hl
  have HFIT : Hid (0 < c.frames → 64 + 1028 * c.frames ≤ s.size) := by rw [hsz2]; exact hfit
  have HOK : Hid (okCm c) := hok
  have HSL : Hid (s = txS log) := hs
  clear h hB ho hlen hsz0 hsz2 hs0 hs hpg hd hm hC hl hfit hok hc hlog hmk hmm
  go_enter Tryz.func8, Tryz.ntmps8
  go_wp2_with fail
  refine (HS0.out _ HD.out).mono ?_
  rintro e w1 ⟨rfl, hb1⟩
  have HLX : Hid (OpR X (w1.alloc (.cells #[(.pointer (some ⟨R, 0, none⟩)), .slice none 0 0, .int .i64 0, .int .i64 pg, .int .i64 0, .int .i64 0] 56)) R w1.heap.size [] (.slice none 0 0) ⟨0, 0, 0, pg⟩) := log_new2 X w1 R pg hb1
  have HBX : Hid (Below X.heap.size X (w1.alloc (.cells #[(.pointer (some ⟨R, 0, none⟩)), .slice none 0 0, .int .i64 0, .int .i64 pg, .int .i64 0, .int .i64 0] 56))) := hb1.alloc hb1.size _
  have HMX : Hid (X.heap.size ≤ w1.heap.size) := hb1.size
  clear hb1
  go_upto_region 4 with fail
  generalize w1.alloc (.cells #[(.pointer (some ⟨R, 0, none⟩)), .slice none 0 0, .int .i64 0, .int .i64 pg, .int .i64 0, .int .i64 0] 56) = W1 at HLX HBX ⊢
  generalize w1.heap.size = M at *
  go_wp2_with fail
  refine (HS1.out _ (HD.out.below HBX.out)).mono ?_
  rintro e w2 ⟨rfl, hb2⟩
  have HX2 : Hid (OpR X w2 R M [] (.slice none 0 0) ⟨0, 0, 0, pg⟩) := HLX.out.below hb2
  clear hb2 HLX HBX HS0 HS1
  go_wp2_with fail
  refine (rslotC s 0 _ (by decide) z2).mono ?_
  rintro e w5 ⟨rfl, hb5⟩
  have HX5 : Hid (OpR X w5 R M [] (.slice none 0 0) ⟨0, 0, 0, pg⟩) := HX2.out.below hb5
  clear hb5 HX2
  obtain ⟨ta, hta⟩ : ∃ ta, ta = toldA s (16 + 24 * 0) 0 s.size := ⟨_, rfl⟩
  have HTA : Hid (ta = toldA s (16 + 24 * 0) 0 s.size) := hta
  rw [← hta] at HC ⊢
  clear hta
  go_wp2_with fail
  refine (rslotC s 1 _ (by decide) z2).mono ?_
  rintro e w6 ⟨rfl, hb6⟩
  have HX6 : Hid (OpR X w6 R M [] (.slice none 0 0) ⟨0, 0, 0, pg⟩) := HX5.out.below hb6
  clear hb6 HX5
  obtain ⟨tb, htb⟩ : ∃ tb, tb = toldA s (16 + 24 * 1) 1 s.size := ⟨_, rfl⟩
  have HTB : Hid (tb = toldA s (16 + 24 * 1) 1 s.size) := htb
  rw [← htb] at HC ⊢
  clear htb hsl h16
  go_upto_block 0 with fail
  obtain ⟨an, han⟩ : ∃ an, an = ta.number := ⟨_, rfl⟩
  obtain ⟨bn, hbn⟩ : ∃ bn, bn = tb.number := ⟨_, rfl⟩
  rw [← han, ← hbn]
  have b1 : an ≤ 3 := by rw [han, HTA.out]; exact (told_ok _ _ _ _ (by decide)).number
  have b2 : bn ≤ 3 := by rw [hbn, HTB.out]; exact (told_ok _ _ _ _ (by decide)).number
  have HP : Hid ((an = 0 ∧ ¬ bn = 0 ∧ c = tb) ∨ (¬ an = 0 ∧ ¬ bn = 0 ∧ bn = nxN an ∧ c = tb) ∨ (¬ an = 0 ∧ bn = 0 ∧ c = ta) ∨ (¬ an = 0 ∧ ¬ bn = 0 ∧ ¬ bn = nxN an ∧ c = ta)) := by
    have hc := HC.out
    have hn := HL.out
    unfold pickC at hc
    rw [← han, ← hbn] at hc
    by_cases k1 : an = 0
    · rw [if_pos (.inl k1)] at hc
      exact .inl ⟨k1, fun k => hn (by rw [hc, ← hbn]; exact k), hc⟩
    · by_cases k2 : bn = nxN an
      · rw [if_pos (.inr k2)] at hc
        exact .inr (.inl ⟨k1, by rw [k2]; unfold nxN; omega, k2, hc⟩)
      · rw [if_neg (fun k => k.elim k1 k2)] at hc
        by_cases k3 : bn = 0
        · exact .inr (.inr (.inl ⟨k1, k3, hc⟩))
        · exact .inr (.inr (.inr ⟨k1, k3, k2, hc⟩))
  clear han hbn
  obtain ⟨⟨c0, c1, c2, c3, c4, c5⟩, hfz, hM⟩ := HX6.out.cells
  have f4 := hfz 4
  have HX1 : Hid (OpR X (w6.setCell ⟨M, 4, none⟩ (.int .i64 1)) R M [] (.slice none 0 0) ⟨1, 0, 0, pg⟩) := HX6.out.own rfl
  clear hfz
  go_cut [] (fun wx => ∃ σ : Nat, Hid ((σ = 0 ∧ c = ta) ∨ (σ = 1 ∧ c = tb)) ∧ Hid (OpR X wx R M [] (.slice none 0 0) ⟨σ, 0, 0, pg⟩))
  case first =>
    rcases HP.out with ⟨rfl, h2, h3⟩ | ⟨h1, h2, h3, h4⟩ | ⟨h1, rfl, h4⟩ | ⟨h1, h2, h3, h4⟩
    · have hz : ((bn : Int) == 0) = false := by
        have : ¬ (bn : Int) = 0 := by omega
        simpa using this
      have HE : Hid (c = tb) := h3
      clear h3 HP h2
      go_wp2_with fail
      go_meet
      case rel => exact ⟨1, .inr ⟨rfl, HE.out⟩, HX1⟩
    · have hz : ((an : Int) == 0) = false := by
        have : ¬ (an : Int) = 0 := by omega
        simpa using this
      have hz2 : ((bn : Int) == 0) = false := by
        have : ¬ (bn : Int) = 0 := by omega
        simpa using this
      have hz3 : ((bn : Int) != 0) = true := by simp [bne, hz2]
      have hz4 : ((bn : Int) == (an : Int) % 3 + 1) = true := by
        have : (bn : Int) = (an : Int) % 3 + 1 := by rw [h3]; unfold nxN; omega
        simpa using this
      have HE : Hid (c = tb) := h4
      clear h4 h3 HP h2 h1
      go_wp2_with fail
      go_meet
      case rel => exact ⟨1, .inr ⟨rfl, HE.out⟩, HX1⟩
    · have hz : ((an : Int) == 0) = false := by
        have : ¬ (an : Int) = 0 := by omega
        simpa using this
      have HE : Hid (c = ta) := h4
      clear h4 HP h1
      go_wp2_with fail
      go_meet
      case rel => exact ⟨0, .inl ⟨rfl, HE.out⟩, HX6⟩
    · have hz : ((an : Int) == 0) = false := by
        have : ¬ (an : Int) = 0 := by omega
        simpa using this
      have hz2 : ((bn : Int) == 0) = false := by
        have : ¬ (bn : Int) = 0 := by omega
        simpa using this
      have hz3 : ((bn : Int) != 0) = true := by simp [bne, hz2]
      have hz4 : ((bn : Int) == (an : Int) % 3 + 1) = false := by
        have : ¬ (bn : Int) = (an : Int) % 3 + 1 := fun k => h3 (by unfold nxN; omega)
        simpa using this
      have HE : Hid (c = ta) := h4
      clear h4 h3 HP h2 h1
      go_wp2_with fail
      go_meet
      case rel => exact ⟨0, .inl ⟨rfl, HE.out⟩, HX6⟩
  case rest =>
    obtain ⟨σ, HSG, HX⟩ := hcut
    have HCT : Hid (c = toldA s (16 + 24 * σ) σ s.size ∧ σ ≤ 1) := by
      rcases HSG.out with ⟨rfl, h⟩ | ⟨rfl, h⟩
      · exact ⟨by rw [h]; exact HTA.out, by decide⟩
      · exact ⟨by rw [h]; exact HTB.out, by decide⟩
    have HCS : Hid (c = ⟨σ, c.number, c.frames, c.pages⟩) := by
      show c = ⟨σ, c.number, c.frames, c.pages⟩
      have := told_form s (16 + 24 * σ) σ s.size
      rw [← HCT.out.1] at this
      rcases this with h | h
      · exact h
      · exact absurd (by rw [h]; rfl) HL.out
    clear HX6 HX1 HSG HP c0 c1 c2 c3 c4 c5 f4 hM HTA HTB HC b1 b2
    obtain ⟨⟨c0, c1, c2, c3, c4, c5⟩, hfz, hM⟩ := HX.out.cells
    have HRS : Hid (∀ W, Calls Tryz.prog 49 #[.string s, .int .i64 σ] W fun e w' => e = .returned (.tuple #[.int .i64 c.number, .int .i64 c.frames, .int .i64 c.pages]) ∧ Below W.heap.size W w') := fun W => by
      have := rslotC s σ W HCT.out.2 z2
      rw [← HCT.out.1] at this
      exact this
    clear hfz
    go_wp2_with fail
    refine (HRS.out _).mono ?_
    rintro e w7 ⟨rfl, hb7⟩
    have HX7 : Hid (OpR X w7 R M [] (.slice none 0 0) ⟨σ, 0, 0, pg⟩) := HX.out.below hb7
    have HX8 : Hid (OpR X (((w7.setCell ⟨M, 5, none⟩ (.int .i64 c.number)).setCell ⟨M, 2, none⟩ (.int .i64 c.frames)).setCell ⟨M, 3, none⟩ (.int .i64 c.pages)) R M [] (.slice none 0 0) c) := by
      have := HX7.out.told c.number c.frames c.pages
      have e : (⟨σ, c.number, c.frames, c.pages⟩ : Cm) = c := HCS.out.symm
      rw [show (⟨(⟨σ, 0, 0, pg⟩ : Cm).slot, c.number, c.frames, c.pages⟩ : Cm) = c from e] at this
      exact this
    clear hb7 HX c0 c1 c2 c3 c4 c5 hM HRS
    obtain ⟨⟨c0, c1, c2, c3, c4, c5⟩, hfz, hM⟩ := HX7.out.cells
    have f2 := hfz 2
    have f3 := hfz 3
    have f5 := hfz 5
    clear hfz
    go_upto_block 1 with fail
    generalize ((w7.setCell ⟨M, 5, none⟩ (.int .i64 c.number)).setCell ⟨M, 2, none⟩ (.int .i64 c.frames)).setCell ⟨M, 3, none⟩ (.int .i64 c.pages) = W8 at HX8 ⊢
    clear HX7 c0 c1 c2 c3 c4 c5 f2 f3 f5 hM HCT HCS
    go_wp2_with fail
    go_loopw [9] (fun u w => ∃ (k : Nat) (vf : Value), u = .int .i64 k ∧ k ≤ c.frames ∧ Hid (OpR X w R M (frL log k) vf c)) (fun u _ => c.frames - (intOf u).toNat)
    case atStart => exact ⟨0, _, rfl, Nat.zero_le _, HX8⟩
    case round =>
      clear HX8
      obtain ⟨k, vf, rfl, hk, HX⟩ := hrel
      obtain ⟨⟨c0, c1, c2, c3, c4, c5⟩, hfz, hM⟩ := HX.out.cells
      have f1 := hfz 1
      clear hfz
      by_cases hlt : k < c.frames
      · have hfit := HFIT.out (by omega)
        have k1 : (k : Int) < (c.frames : Int) := by omega
        have hkk : k ≤ 65536 := by omega
        have hrow := HX.out.row
        rw [frL_len] at hrow
        obtain ⟨va, vcap, rfl⟩ : ∃ a cap, vf = .slice a k cap := by
          rcases owns_sliceF hrow with ⟨h1, h2⟩ | ⟨g, cap, h1, h2⟩
          · exact ⟨none, 0, by rw [h1, h2]⟩
          · exact ⟨_, cap, h1⟩
        have HROW : Hid (wr.ownsRow X.heap.size 102 2 (.slice va k vcap) k (frsC (frL log k))) := hrow
        obtain ⟨f, hf⟩ : ∃ f, f = s.extract (64 + 1028 * k) (64 + 1028 * k + 1028) := ⟨_, rfl⟩
        have sf : f.size = 1028 := by rw [hf, ByteArray.size_extract]; omega
        obtain ⟨t1, ht1⟩ : ∃ t1, t1 = f.extract 0 4 := ⟨_, rfl⟩
        obtain ⟨t2, ht2⟩ : ∃ t1, t1 = f.extract 4 1028 := ⟨_, rfl⟩
        have st1 : t1.size = 4 := by rw [ht1, ByteArray.size_extract]; omega
        have cut0 : ∀ W, (Instr.slice 9 (.string s) (some (.int .i64 (64 + 1028 * (k : Int)))) (some (.int .i64 (64 + 1028 * ((k : Int) + 1)))) none).run Tryz.prog W = .ok (.string f) W := fun W => by
          have e1 : (64 : Int) + 1028 * (k : Int) = ((64 + 1028 * k : Nat) : Int) := by omega
          have e2 : (64 : Int) + 1028 * ((k : Int) + 1) = ((64 + 1028 * k + 1028 : Nat) : Int) := by omega
          rw [e1, e2, hf]
          exact slice_lit s _ _ (by omega) (by omega) W
        have cut1 : ∀ W, (Instr.slice 9 (.string f) none (some (.int .i64 4)) none).run Tryz.prog W = .ok (.string t1) W := fun W => by
          rw [run_slice_string_h W 9 f Tryz.underlying9 .i64 4 (by decide) (by omega), ht1]; rfl
        have cut2 : ∀ W, (Instr.slice 9 (.string f) (some (.int .i64 4)) none none).run Tryz.prog W = .ok (.string t2) W := fun W => by
          rw [run_slice_string_l W 9 f Tryz.underlying9 .i64 4 (by decide) (by omega), ht2, sf]; rfl
        obtain ⟨nn, hnn⟩ : ∃ nn, nn = frN log k := ⟨_, rfl⟩
        have hx1 : t1 = frT log k := by
          rw [ht1, hf, ByteArray.extract_extract, HSL.out]
          have : (txS log).extract (64 + 1028 * k) (64 + 1028 * k + 4) = frT log k := cut_txS log _ 4
          rw [← this]
          congr 1
          omega
        have hx2 : t2 = frX log k := by
          rw [ht2, hf, ByteArray.extract_extract, HSL.out]
          have : (txS log).extract (64 + 1028 * k + 4) (64 + 1028 * k + 4 + 1024) = frX log k := cut_txS log _ 1024
          rw [← this]
          congr 1
          omega
        have hnum : numB t1 0 = nn := by rw [hx1, hnn]; rfl
        have hn4 : nn < 4294967296 := by rw [← hnum]; exact numB_lt _ _
        have HUB : Hid (∀ W, Calls Tryz.prog 51 #[.string t1] W fun e w' => ∃ v, e = .returned v ∧ (v = .int .u64 nn ∧ w' = W)) := fun W => by
          refine (runb t1 W st1).mono ?_
          rintro e w' ⟨rfl, rfl⟩
          exact ⟨_, rfl, by rw [hnum], rfl⟩
        have HFR : Hid (frL log (k + 1) = frL log k ++ [((nn : Int), t2)]) := by
          show frL log k ++ [((frN log k : Int), frX log k)] = _
          rw [hnn, hx2]
        obtain ⟨i0, hi, hz0, hz1, hz2⟩ := info_parts infoFR
        have hXw := HX.out.bel.size
        have hwn : IntKind.i64.wrap (nn : Int) = (nn : Int) := by rw [IntKind.wrap_i64]; omega
        clear hrow hf ht1 ht2 hx1 hx2 hnum hnn hfit sf st1
        go_upto_region 21 with fail
        go_region_law (first | (refine step_callR rfl (f := 51) (args := #[.string t1]) (R := fun r w2 => r = .int .u64 nn ∧ w2 = wr.drew) ?q1 ?q2 ?_; (case q1 => simp only [execOp]; go_simp); (case q2 => exact HUB.out _); (rintro v w2 ⟨rfl, rfl⟩)) | (refine step_append_ownN rfl (.tmp 114) (.tmp 122) 54 rfl X.heap.size 102 i0 (.agg #[.int .i64 0, .string ⟨#[]⟩]) 2 24 Tryz.underlying54 hi hz0 hz1 hz2 rfl (by decide) (.slice va k vcap) k (frsC (frL log k)) ?s1 ?s2 ⟨wr.heap.size, 0, none⟩ 1 1 [.int .i64 nn, .string t2] ?s3 rfl ?s4 ?s5 ?s6 ?s7 ?s8 ?_; (case s1 => go_simp); (case s2 => exact World.ownsRow.alloc HROW.out _); (case s3 => go_simp); (case s4 => exact newsF wr nn t2); (case s5 => exact one_frame _ _); (case s6 => unfold maxLen; omega); (case s7 => omega); (case s8 => simp; omega); intro v1 w2 ho1 hg1; obtain ⟨a1, cap1, rfl⟩ := owns_slice2 ho1; have hr1 : w2.ownsRow X.heap.size 102 2 (.slice a1 (k + 1) cap1) (frL log (k + 1)).length (frsC (frL log (k + 1))) := (by rw [HFR.out, frsC_snoc, List.length_append, frL_len]; exact ho1); have HH := HX.out.grow (but_grown (but_alloc wr _ _) (grown_drew hg1)) hr1; have HQ : Hid (OpR X (w2.setCell ⟨M, 1, none⟩ (.slice a1 (k + 1) cap1)) R M (frL log (k + 1)) (.slice a1 (k + 1) cap1) c) := HH.1; have e4 := HH.2.1; have fz4 := HH.2.2.1; have hM2 := HH.2.2.2; clear HH ho1 hg1 hr1))
        all_goals
          go_wp2_with fail
          go_roundw
          case rel => exact ⟨k + 1, _, by go_num, by omega, HQ⟩
          case measure => simp [intOf]; omega
      · obtain rfl : k = c.frames := by omega
        have HRL : Hid (RL wr B R M (frL log c.frames) c S) := ⟨vf, HX.out.rl HB0.out HD.out⟩
        go_wp2_with fail
        go_ret2
        exact ⟨_, rfl, HRL.out, HX.out.bel⟩
end Go.Proofs.YtfjkockcgddgbaaGreat
